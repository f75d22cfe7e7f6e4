/- Proved: for every code the law FnExactRunName returns true (the program's name of the code is the model's) and its argument and the program's table of names read afterwards as before. Condition: the package-level table of names holds, when the call begins, what the program's text lays in it; the card ties that to the text of the pruned copy of the project. -/
import Derived.Test.YtmedlpkfgehhlaaDoorTie
import Derived.Test.YtmedlpkfgehhlaaDoorCards
import Derived.WalkKit
import Derived.ProofKit
import Derived.OpenShut
import Derived.Below
import Derived.LaidMore
import Derived.LaidLaws
import Derived.Stop.Joined
import Derived.ChangeVars
import Derived.WalkSmall
import Derived.Carry
import Derived.SevenTiedAt
import Derived.ShutString
namespace Go.Proofs.YtmedlpkfgehhlaaDoor.fnExactRunName
open Go.ChangeShapes Go.WideShapes Go.ChangeAt Go.RowKit
open Go.ChangeMaps (open_string shut_string)
set_option linter.unusedVariables false

theorem neq_yes {a b : ByteArray} (h : a = b) : (a.toList != b.toList) = false := by simp [h]

/-- The name of a code. -/
def nameV (i : Nat) : ByteArray := match i with
  | 0 => ⟨#[100, 111, 110, 101]⟩
  | 1 => ⟨#[102, 117, 101, 108]⟩
  | 2 => ⟨#[99, 101, 108, 108]⟩
  | 3 => ⟨#[98, 97, 100]⟩
  | _ => ⟨#[]⟩

/-- The program's table lies in the block of its package-level variable. -/
def Tab (w : World) : Prop := ∀ i : Nat, i < 4 → w.cell? ⟨1, i, none⟩ = some (.string (nameV i))
theorem Tab.keep {w w' : World} (h : Tab w) (hb : Below w.heap.size w w') : Tab w' := by
  intro i hi
  rw [hb.cell (p := ⟨1, i, none⟩) (World.block_lt_of_cell? w _ (h i hi))]
  exact h i hi
theorem below_one (w : World) (o : Obj) : Below w.heap.size w (w.alloc o) := (Below.refl _ _).alloc (Nat.le_refl _) _

/-- The model's list in new memory. -/
def listObj (t : TypeId) : Obj := .cells #[.string ⟨#[100, 111, 110, 101]⟩, .string ⟨#[102, 117, 101, 108]⟩, .string ⟨#[99, 101, 108, 108]⟩, .string ⟨#[98, 97, 100]⟩] t
theorem list_cell (w : World) (t : TypeId) (j : Nat) (hj : j < 4) :
    (w.alloc (listObj t)).cell? ⟨w.heap.size, j, none⟩ = some (.string (nameV j)) := by
  unfold listObj
  rw [World.cell?_alloc_new]
  match j, hj with
  | 0, _ => rfl
  | 1, _ => rfl
  | 2, _ => rfl
  | 3, _ => rfl

/-- What is answered: the name of a code that is one, else nothing. -/
def ansV (a : Int) : ByteArray := if 0 ≤ a ∧ a < 4 then nameV a.toNat else ⟨#[]⟩
theorem ansV_in (k : Nat) (h : k < 4) : ansV k = nameV k := by
  unfold ansV
  rw [if_pos ⟨by omega, by omega⟩, Int.toNat_natCast]
theorem ansV_out (a : Int) (h : ¬ (0 ≤ a ∧ a < 4)) : ansV a = ⟨#[]⟩ := by
  unfold ansV
  rw [if_neg h]

set_option maxHeartbeats 1000000 in
theorem inn_any (x lo hi : Int) (w : World) : Calls Tryd.prog 10 #[.int .i64 x, .int .i64 lo, .int .i64 hi] w fun e w' =>
    e = .returned (.bool (decide (lo ≤ x) && decide (x ≤ hi))) ∧ w' = w := by
  by_cases h1 : lo ≤ x
  · by_cases h2 : x ≤ hi
    · go_enter Tryd.func10, Tryd.ntmps10
      go_wp2
      go_ret
      exact ⟨by rw [decide_eq_true (show lo ≤ x by omega), decide_eq_true (show x ≤ hi by omega)]; rfl, rfl⟩
    · go_enter Tryd.func10, Tryd.ntmps10
      go_wp2
      go_ret
      exact ⟨by rw [decide_eq_false (show ¬ x ≤ hi by omega)]; rfl, rfl⟩
  · go_enter Tryd.func10, Tryd.ntmps10
    go_wp2
    go_ret
    exact ⟨by rw [decide_eq_false (show ¬ lo ≤ x by omega)]; rfl, rfl⟩

set_option maxHeartbeats 1000000 in
theorem iname_any (a : Int) (hw : -9223372036854775808 ≤ a ∧ a ≤ 9223372036854775807) (w : World) (hT : Tab w) : Calls Tryd.prog 8 #[.int .i64 a] w fun e w' => e = .returned (.string (ansV a)) ∧ w' = w := by
  by_cases h : 0 ≤ a ∧ a < 4
  · obtain ⟨k, rfl⟩ := Int.eq_ofNat_of_zero_le h.1
    have hk : k < 4 := by omega
    have hc := hT k hk
    rw [ansV_in k hk]
    generalize nameV k = s at *
    clear hT
    go_enter Tryd.func8, Tryd.ntmps8
    go_wp2
    go_ret
    exact ⟨rfl, rfl⟩
  · rw [ansV_out a h]
    clear hT
    by_cases h1 : a < 0
    · go_enter Tryd.func8, Tryd.ntmps8
      go_wp2
      go_ret
      exact ⟨rfl, rfl⟩
    · have h2 : 4 ≤ a := by omega
      go_enter Tryd.func8, Tryd.ntmps8
      go_wp2
      go_ret
      exact ⟨rfl, rfl⟩

set_option maxHeartbeats 1000000 in
theorem l20_any (a : Int) (hw : -9223372036854775808 ≤ a ∧ a ≤ 9223372036854775807) (B : Nat) (w : World) (hL : ∀ j : Nat, j < 4 → w.cell? ⟨B, j, none⟩ = some (.string (nameV j))) :
    Calls Tryd.prog 9 #[.slice (some ⟨B, 0, none⟩) 4 4, .int .i64 a] w fun e w' => e = .returned (.string (ansV a)) ∧ w' = w := by
  by_cases h : 0 ≤ a ∧ a < 4
  · obtain ⟨k, rfl⟩ := Int.eq_ofNat_of_zero_le h.1
    have hk : k < 4 := by omega
    have hc := hL k hk
    rw [ansV_in k hk]
    generalize nameV k = s at *
    clear hL
    have hi1 : (decide ((0 : Int) ≤ k) && decide ((k : Int) ≤ 3)) = true := by simp; omega
    go_enter Tryd.func9, Tryd.ntmps9
    go_wp2_with fail
    refine (inn_any _ _ _ _).mono ?_
    rintro e w1 ⟨rfl, rfl⟩
    rw [hi1]
    go_wp2
    go_ret
    exact ⟨rfl, rfl⟩
  · rw [ansV_out a h]
    clear hL
    have hi1 : (decide ((0 : Int) ≤ a) && decide (a ≤ 3)) = false := by simp; omega
    go_enter Tryd.func9, Tryd.ntmps9
    go_wp2_with fail
    refine (inn_any _ _ _ _).mono ?_
    rintro e w1 ⟨rfl, rfl⟩
    rw [hi1]
    go_wp2
    go_ret
    exact ⟨rfl, rfl⟩

set_option maxHeartbeats 1000000 in
theorem sname_any (a : Int) (hw : -9223372036854775808 ≤ a ∧ a ≤ 9223372036854775807) (w : World) : Calls Tryd.prog 7 #[.int .i64 a] w fun e w' => e = .returned (.string (ansV a)) ∧ Below w.heap.size w w' := by
  go_enter Tryd.func7, Tryd.ntmps7
  go_wp2_with fail
  refine (l20_any a hw _ _ (fun j hj => list_cell w _ j hj)).mono ?_
  rintro e w1 ⟨rfl, rfl⟩
  go_wp2
  go_ret
  exact ⟨rfl, below_one _ _⟩

theorem own : ownKnob Tryd.prog.godebug = none := by kernel_rfl
theorem laidOut : laidOutB Tryd.prog = true := by kernel_rfl
/-- The table's name, out of the row. -/
def tabName : String := Rows.fnExactRunNameSpec.vars.headD ""
theorem gTab : Tryd.prog.globalNamed tabName = some 1 := by kernel_rfl
theorem tTab : (Tryd.prog.globals[1]?).map (·.type) = some 27 := by kernel_rfl
theorem cStr : Tryd.prog.cellsOf 9 = 1 := by kernel_rfl

/-- The heap that the start leaves meets the condition. -/
theorem door_met (os : Os) (args : Array Value) : laidMetH Tryd.prog Rows.fnExactRunNameRow.laid ((World.doorLaid Tryd.prog 400 os).forCall (fun _ _ => 0) ⟨#[], args, []⟩).memory :=
  laidMetH_of_parts3 (fuel := 8) (laidMet_of_run' 8 (by kernel_rfl) (by kernel_rfl)) (by kernel_rfl) (by kernel_rfl)

def tabParts : List (DataW Unit) := [.lit (.string [100, 111, 110, 101]), .lit (.string [102, 117, 101, 108]), .lit (.string [99, 101, 108, 108]), .lit (.string [98, 97, 100])]
theorem tab_part (i : Nat) (hi : i < 4) : tabParts[i]? = some (.lit (.string (nameV i).data.toList)) := by
  match i, hi with
  | 0, _ => rfl
  | 1, _ => rfl
  | 2, _ => rfl
  | 3, _ => rfl

theorem of_laid {W : World} (h : laidMetH Tryd.prog Rows.fnExactRunNameRow.laid W) : Tab W := by
  rw [MakeChecks.laidMetH_plain _ _ _ (by kernel_rfl)] at h
  obtain ⟨ps, ⟨g0, t0, cs0, f0, p0, q0, hg0, ht0, hv0, hd0, _, _⟩, _, _⟩ := h
  obtain rfl := Option.some.inj (gTab.symm.trans hg0)
  obtain rfl := Option.some.inj (tTab.symm.trans ht0)
  obtain ⟨xs, m1, rfl, hx1, hlen, hn, hel⟩ := DataW.trod_array Tryd.underlying27 hd0
  have hd : tabParts = xs.map (·.1) := by
    have := congrArg Prod.fst hx1
    exact DataW.agg.inj this
  intro i hi
  have hi' := hel i hi
  rw [List.getElem?_eq_getElem (by omega), cStr] at hi'
  obtain ⟨s, e1, e2, _⟩ := DataW.trod_string Tryd.underlying9 hi'
  have hp := tab_part i hi
  rw [hd, List.getElem?_map, List.getElem?_eq_getElem (by omega), e2] at hp
  have hs : s = nameV i := by
    apply Go.WideShapes.bytes_inj
    simpa using hp
  have hc := World.var?_cell hg0 hv0 i
  rw [hc, ← hs]
  have e3 : cs0.toList[i]? = some (.string s) := by
    have := congrArg (fun l => l[0]?) e1
    simpa using this
  simpa using e3

/-- The variable reads again as it did. -/
theorem vars_again {H : Type} {enc : TypeId × Value → H} {W W' : World} {cs : Array Value} {fuel : Nat} {d : DataW H} {p : List MemPlace}
    (hvar : W.var? Tryd.prog tabName = some cs) (hd : DataW.trod enc Tryd.prog W 0 (fun _ => true) true fuel 27 cs.toList = some (d, p)) (hlt : ∀ x ∈ p, x.block < W.heap.size) (h0 : 1 < W.heap.size) (hB : Below W.heap.size W W') :
    DataW.TrodVars enc Tryd.prog W' (fun b => decide (b < W.heap.size)) [tabName] [d] (MemPlace.row ⟨1, 0, none⟩ cs.size ++ p) := by
  obtain ⟨fuel', hd'⟩ := Below.trod laidOut (by kernel_rfl) (of_decide_eq_true (by kernel_rfl)) (v := .agg cs) (⟨fuel, by simpa [Value.cells] using hd⟩ : DataW.Trod enc Tryd.prog W 0 (fun _ => true) true 27 (.agg cs) d p) hB hlt
  exact trodVars_mk1 (enc := enc) (spare := fun b => decide (b < W.heap.size)) gTab tTab (var?_below hB gTab h0 hvar) (by simpa [Value.cells] using hd')

set_option maxHeartbeats 1000000 in
theorem walk (a0 : Int) (w0 : (Lit.int .i64 a0).wf = true) (w : World) (hT : Tab w) :
    Calls Tryd.prog 4 #[.int .i64 a0] w fun e w' => e = .returned (.bool true) ∧ Below w.heap.size w w' := by
  have hw : -9223372036854775808 ≤ a0 ∧ a0 ≤ 9223372036854775807 := by simpa [Lit.wf, IntKind.min, IntKind.max, IntKind.bits, IntKind.signed] using w0
  go_enter Tryd.func4, Tryd.ntmps4
  go_wp2_with fail
  refine (sname_any a0 hw _).mono ?_
  rintro e w1 ⟨rfl, hb1⟩
  go_wp2_with fail
  refine (iname_any a0 hw _ (hT.keep hb1)).mono ?_
  rintro e w2 ⟨rfl, hw2⟩
  subst hw2
  have hne := neq_yes (rfl : ansV a0 = ansV a0)
  clear hT
  go_wp2
  go_ret
  exact ⟨rfl, hb1⟩

set_option maxRecDepth 100000 in
theorem lifted (os : Os) (started : os.Started) (H : Type) (enc : TypeId × Value → H) :
    ReturnsInHanded {} Tryd.checked os 4 .any (fun w args => (Rows.fnExactRunNameSpec.pre enc Tryd.prog Tryd.f4 [] false w args ∧ laidMetH Tryd.prog Rows.fnExactRunNameRow.laid w) ∧ sizedMet enc Tryd.prog Tryd.f4 (OpenSpec.ofChange Rows.fnExactRunNameSpec) false w args)
      (Rows.fnExactRunNameSpec.post enc Tryd.prog Tryd.f4 false true false false) := by
  refine returnsInHanded_of_change_and (C := Tryd.checked) (X := fun w _ => laidMetH Tryd.prog Rows.fnExactRunNameRow.laid w) (fun _ _ _ hh h => h.of_heap hh) own started (by kernel_rfl) Tryd.func4
    (ChangeSpec.witness_shaped (enc := enc) (C := Tryd.checked) (os := os) (X := fun w _ => laidMetH Tryd.prog Rows.fnExactRunNameRow.laid w) false (World.doorLaid Tryd.prog 400 os) #[.int .i64 0] 8 rfl (World.shaped_of_RefB (by kernel_rfl) (by kernel_rfl)) (by kernel_rfl) (by kernel_rfl) (by kernel_rfl) (door_met os _)) ?_
  intro W base args ds gs before hval0 hW _ _ hL _
  have hval : ∀ (j : Nat) t v, Tryd.f4.params[j]? = some t → args[j]? = some v → Value.okWide Tryd.prog W .any base t v := hval0
  have hW' := hW
  obtain ⟨p, q, hA0, hV0, rfl, hfz, hnd⟩ := hW
  have hA : DataW.TrodAll enc Tryd.prog W 0 (fun _ => true) true Tryd.f4.params.toList args.toList ds p := hA0
  have hV : DataW.TrodVars enc Tryd.prog W (fun _ => true) [tabName] gs q := hV0
  rw [Tryd.params4] at hA hval
  obtain ⟨v0, d0, rfl, rfl, h0⟩ := trodAll_one hA
  obtain ⟨g, t, cs, fuel, d, p', rfl, hg, ht, hvar, hd, rfl⟩ := trodVars_one hV
  obtain rfl := Option.some.inj (gTab.symm.trans hg)
  obtain rfl := Option.some.inj (tTab.symm.trans ht)
  obtain ⟨a0, rfl, rfl, rfl, w0⟩ := open_int Tryd.underlying3 (hval 0 3 v0 rfl rfl) h0
  have hT := of_laid hL
  have hlt0 : 1 < W.heap.size := World.block_lt_of_cell? W _ (hT 0 (by omega))
  have hltv : ∀ x ∈ p', x.block < W.heap.size := fun x hx => hW'.lt x (List.mem_append_right _ (List.mem_append_right _ hx))
  clear hA0 hV0 hval0
  refine (walk a0 w0 W (of_laid hL)).mono fun e W' ⟨he, bel⟩ => ?_
  subst he
  refine ⟨_, rfl, _, _, _, [], [], (MemPlace.row ⟨1, 0, none⟩ cs.size ++ p'), hW', ?_, ?_, ?_, bel.frame _, fun h => by cases h⟩
  · exact trodAll_mk1 (shut_bool Tryd.underlying4 true)
  · exact trodAll_mk1 (shut_int Tryd.underlying3 w0)
  · exact vars_again hvar hd hltv hlt0 bel

theorem row_holds : Rows.FnExactRunNameSaid :=
  OpenClaim.holds_of_wide 4 Tryd.f4 rfl rfl rfl rfl rfl rfl rfl ⟨rfl, rfl, rfl, rfl, rfl⟩ rfl rfl rfl rfl rfl (by kernel_rfl) Tryd.func4 (by kernel_rfl)
    (of_decide_eq_true (by kernel_rfl)) (by unfold Func.isWrapper; first | (rw [if_pos (by decide +kernel)]; kernel_rfl) | (rw [if_neg (by decide +kernel)]; exact ⟨rfl, rfl⟩))
    (fun os started H enc _ => lifted os started H enc)

/-- The card: the row, its listed variable tied to the program's text. -/
theorem proved : Rows.FnExactRunNameCardSaid :=
  Claim7.holds_tied_plain_at .later [] [.data] true Rows.fnExactRunNameCard.stood.harness false
    row_holds (fun _ h => by cases h) (by kernel_rfl) (fun _ h => by cases h) fnExactRunName_row_tie rfl ⟨rfl, rfl⟩ (by kernel_rfl) rfl
    (fun f fn hf hfn => by
      obtain rfl : f = 4 := Option.some.inj ((show Tryd.prog.funcNamed Rows.fnExactRunNameRow.func = some 4 by kernel_rfl).symm.trans hf) |>.symm
      obtain rfl : fn = Tryd.f4 := (Option.some.inj (Tryd.func4.symm.trans hfn)).symm
      exact ⟨by kernel_rfl, fun j t ht => by
        rw [Tryd.params4] at ht
        have hm : t ∈ [3] := by simpa using Array.mem_of_getElem? ht
        have hall : ([3].all fun u => !Tryd.prog.wantsStandIn u) = true := by kernel_rfl
        exact (show Tryd.prog.wantsStandIn t = false by simpa using List.all_eq_true.1 hall t hm)⟩)
    (by kernel_rfl)
#print axioms proved
end Go.Proofs.YtmedlpkfgehhlaaDoor.fnExactRunName
