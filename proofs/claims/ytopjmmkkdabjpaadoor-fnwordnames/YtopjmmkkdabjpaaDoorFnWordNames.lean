/- Proved: for every slice of bytes the law FnWordNames returns true (each op's name has its number; drawn names that are none have none) and its argument and the program's table of names read afterwards as before. Condition: the package-level table of names holds, when the call begins, what the program's text lays in it; the card ties that to the text of the pruned copy of the project. -/
import Derived.Test.YtopjmmkkdabjpaaDoorLaid
import Derived.Test.YtopjmmkkdabjpaaDoorTie
import Derived.Test.YtopjmmkkdabjpaaDoorCards
import Derived.SevenTiedAt
import Derived.ShutString
import Derived.Test.YtopjmmkkdabjpaaDoorNameLaws
namespace Go.Proofs.YtopjmmkkdabjpaaDoor.fnWordNames
open Go.ChangeShapes Go.WideShapes Go.ChangeAt Go.RowKit
open Go.ChangeMaps (open_string shut_string)
set_option linter.unusedVariables false

set_option maxHeartbeats 1000000 in
theorem walk (a0 : Option Addr) (len0 cap0 : Nat) (z0 : List Int) (w : World) (w0 : IsRow .u8 w a0 len0 cap0 z0) (hT : Tab w) :
    Calls Tryd.prog 3 #[.slice a0 len0 cap0] w fun e w' => e = .returned (.bool true) ∧ Below w.heap.size w w' := by
  by_cases hbig : (1048576 : Int) < (len0 : Int)
  · go_enter Tryd.func3, Tryd.ntmps3
    go_wp2_with fail
    refine (big_any _ _ _ _).mono ?_
    rintro e w1 ⟨rfl, rfl⟩
    have hd : decide ((1048576 : Int) < (len0 : Int)) = true := decide_eq_true hbig
    go_wp2
    go_ret
    exact ⟨rfl, Below.refl _ _⟩
  · go_enter Tryd.func3, Tryd.ntmps3
    go_wp2_with fail
    refine (big_any _ _ _ _).mono ?_
    rintro e w1 ⟨rfl, rfl⟩
    have hd : decide ((1048576 : Int) < (len0 : Int)) = false := decide_eq_false (by omega)
    go_wp2_with fail
    refine (drawname_any a0 len0 cap0 z0 _ w0).mono ?_
    rintro e w2 ⟨op, rfl, ho1, ho2, hb2⟩
    have w02 : IsRow .u8 w2 a0 len0 cap0 z0 := w0.keep (p := w1.heap.size) (fun x e c => Nat.ne_of_lt (w0.lt x e c)) (Fr.ofBelow hb2)
    go_wp2_with fail
    refine (drawof_any a0 len0 cap0 z0 _ w02).mono ?_
    rintro e w3 ⟨s, rfl, hb3'⟩
    have hb3 := bel_then hb2 hb3'
    have hT3 := hT.keep hb3
    clear w0 w02 hd hbig hb2 hb3' hT ho1 ho2
    go_wp2_with fail
    refine (iof_any s _ hT3).mono ?_
    rintro e w4 ⟨n, rfl, hn, hw4⟩
    subst hw4
    go_wp2_with fail
    refine (iname_any op _ hT3).mono ?_
    rintro e w5 ⟨rfl, hw5⟩
    subst hw5
    go_wp2_with fail
    refine (sname_any op _).mono ?_
    rintro e w6 ⟨rfl, hb6⟩
    have hT6 := hT3.keep hb6
    have hb6' := bel_then hb3 hb6
    have hne := neq_yes (rfl : nameV op = nameV op)
    clear hT3 hb3 hb6
    go_wp2_with fail
    refine (sof_any s _).mono ?_
    rintro e w7 ⟨n', rfl, hn', hb7⟩
    obtain rfl := isOf_one s n n' hn hn'
    have hT7 := hT6.keep hb7
    have hb7' := bel_then hb6' hb7
    have hnn : (n != n) = false := by simp
    clear hT6 hb6' hb7 hn'
    go_wp2_with fail
    refine (iname_any op _ hT7).mono ?_
    rintro e w8 ⟨rfl, hw8⟩
    subst hw8
    cases hok : okB op
    · have hE : (nameV op).toList.isEmpty = true := by rw [name_empty, hok]; rfl
      go_wp2_with fail
      refine (implok_any op _).mono ?_
      rintro e w9 ⟨rfl, hw9⟩
      subst hw9
      go_wp2_with fail
      refine (implok_any op _).mono ?_
      rintro e w10 ⟨rfl, hw10⟩
      subst hw10
      by_cases h0 : n = 0
      · subst h0
        clear hn
        go_wp2
        go_ret
        exact ⟨rfl, hb7'⟩
      · have hz : (n == 0) = false := by simpa using h0
        have HS : Hid (nameV n = s) := of_nonzero s n hn h0
        have hq := eq_yes (of_nonzero s n hn h0)
        clear hn h0
        go_wp2_with fail
        refine (iname_any n _ hT7).mono ?_
        rintro e w13 ⟨rfl, hw13⟩
        subst hw13
        go_wp2
        go_ret
        exact ⟨rfl, hb7'⟩
    · have hE : (nameV op).toList.isEmpty = false := by rw [name_empty, hok]; rfl
      go_wp2_with fail
      refine (implok_any op _).mono ?_
      rintro e w9 ⟨rfl, hw9⟩
      subst hw9
      go_wp2_with fail
      refine (implok_any op _).mono ?_
      rintro e w10 ⟨rfl, hw10⟩
      subst hw10
      go_wp2_with fail
      refine (iname_any op _ hT7).mono ?_
      rintro e w11 ⟨rfl, hw11⟩
      subst hw11
      go_wp2_with fail
      refine (iof_any (nameV op) _ hT7).mono ?_
      rintro e w12 ⟨r, rfl, hr, hw12⟩
      subst hw12
      obtain rfl := of_name op r hok hr
      have hrr : (r == r) = true := by simp
      clear hr
      by_cases h0 : n = 0
      · subst h0
        clear hn
        go_wp2
        go_ret
        exact ⟨rfl, hb7'⟩
      · have hz : (n == 0) = false := by simpa using h0
        have HS : Hid (nameV n = s) := of_nonzero s n hn h0
        have hq := eq_yes (of_nonzero s n hn h0)
        clear hn h0
        go_wp2_with fail
        refine (iname_any n _ hT7).mono ?_
        rintro e w13 ⟨rfl, hw13⟩
        subst hw13
        go_wp2
        go_ret
        exact ⟨rfl, hb7'⟩

set_option maxRecDepth 100000 in
theorem lifted (os : Os) (started : os.Started) (H : Type) (enc : TypeId × Value → H) :
    ReturnsInHanded {} Tryd.checked os 3 .any (fun w args => (Rows.fnWordNamesSpec.pre enc Tryd.prog Tryd.f3 [] false w args ∧ laidMetH Tryd.prog Rows.fnWordNamesRow.laid w) ∧ sizedMet enc Tryd.prog Tryd.f3 (OpenSpec.ofChange Rows.fnWordNamesSpec) false w args)
      (Rows.fnWordNamesSpec.post enc Tryd.prog Tryd.f3 false true false false) := by
  refine returnsInHanded_of_change_and (C := Tryd.checked) (X := fun w _ => laidMetH Tryd.prog Rows.fnWordNamesRow.laid w) (fun _ _ _ hh h => h.of_heap hh) own started (by kernel_rfl) Tryd.func3
    (ChangeSpec.witness_shaped (enc := enc) (C := Tryd.checked) (os := os) (X := fun w _ => laidMetH Tryd.prog Rows.fnWordNamesRow.laid w) false (World.doorLaid Tryd.prog 400 os) #[.slice none 0 0] 8 rfl (World.shaped_of_RefB (by kernel_rfl) (by kernel_rfl)) (by kernel_rfl) (by kernel_rfl) (by kernel_rfl) (door_met os _)) ?_
  intro W base args ds gs before hval0 hW _ _ hL _
  have hval : ∀ (j : Nat) t v, Tryd.f3.params[j]? = some t → args[j]? = some v → Value.okWide Tryd.prog W .any base t v := hval0
  have hW' := hW
  obtain ⟨p, q, hA0, hV0, rfl, hfz, hnd⟩ := hW
  have hA : DataW.TrodAll enc Tryd.prog W 0 (fun _ => true) true Tryd.f3.params.toList args.toList ds p := hA0
  have hV : DataW.TrodVars enc Tryd.prog W (fun _ => true) [tabName] gs q := hV0
  rw [Tryd.params3] at hA hval
  obtain ⟨v0, d0, rfl, rfl, h0⟩ := trodAll_one hA
  obtain ⟨g, t, cs, fuel, d, p', rfl, hg, ht, hvar, hd, rfl⟩ := trodVars_one hV
  obtain rfl := Option.some.inj (gTab.symm.trans hg)
  obtain rfl := Option.some.inj (tTab.symm.trans ht)
  obtain ⟨a0, len0, cap0, rfl⟩ := okWide_slice Tryd.underlying22 (hval 0 22 v0 rfl rfl)
  have k0 := h0
  have lt0 : ∀ x ∈ p, x.block < W.heap.size := by obtain ⟨m, hm⟩ := k0; exact DataW.trod_lt m _ _ _ hm
  obtain ⟨z0, w0⟩ : ∃ zs, IsRow .u8 W a0 len0 cap0 zs := by
    obtain ⟨fuel, hf⟩ := h0
    rcases open_ints Tryd.underlying22 Tryd.underlying5 (by kernel_rfl) hf with ⟨hcs, _⟩ | ⟨x, l, c, zs, hcs, _, hl, hm, hz, _, hcell, hwz⟩
    · simp [Value.cells] at hcs
      obtain ⟨rfl, rfl, rfl⟩ := hcs
      exact ⟨[], .inl ⟨rfl, rfl, rfl, rfl⟩⟩
    · simp [Value.cells] at hcs
      obtain ⟨rfl, rfl, rfl⟩ := hcs
      exact ⟨zs, .inr ⟨_, rfl, hl, hm, by simpa using hz, hcell, hwz⟩⟩
  have hT := of_laid hL
  have hlt0 : 0 < W.heap.size := World.block_lt_of_cell? W _ (hT 0 (by omega))
  have hltv : ∀ x ∈ p', x.block < W.heap.size := fun x hx => hW'.lt x (List.mem_append_right _ (List.mem_append_right _ hx))
  clear hA0 hV0 hval0
  refine (walk a0 len0 cap0 z0 W w0 (of_laid hL)).mono fun e W' ⟨he, bel⟩ => ?_
  subst he
  refine ⟨_, rfl, _, _, _, [], p, (MemPlace.row ⟨0, 0, none⟩ cs.size ++ p'), hW', ?_, ?_, ?_, bel.frame _, fun h => by cases h⟩
  · exact trodAll_mk1 (shut_bool Tryd.underlying4 true)
  · exact trodAll_mk1 (Below.trod laidOut (by kernel_rfl) (of_decide_eq_true (by kernel_rfl)) k0 bel lt0)
  · exact vars_again hvar hd hltv hlt0 bel

theorem row_holds : Rows.FnWordNamesSaid :=
  OpenClaim.holds_of_wide 3 Tryd.f3 rfl rfl rfl rfl rfl rfl rfl ⟨rfl, rfl, rfl, rfl, rfl⟩ rfl rfl rfl rfl rfl (by kernel_rfl) Tryd.func3 (by kernel_rfl)
    (of_decide_eq_true (by kernel_rfl)) (by unfold Func.isWrapper; first | (rw [if_pos (by decide +kernel)]; kernel_rfl) | (rw [if_neg (by decide +kernel)]; exact ⟨rfl, rfl⟩))
    (fun os started H enc _ => lifted os started H enc)

/-- The card: the row, its listed variable tied to the program's text. -/
theorem proved : Rows.FnWordNamesCardSaid :=
  Claim7.holds_tied_plain_at .later [] [.data] true Rows.fnWordNamesCard.stood.harness false
    row_holds (fun _ h => by cases h) (by kernel_rfl) (fun _ h => by cases h) fnWordNames_row_tie rfl ⟨rfl, rfl⟩ (by kernel_rfl) rfl
    (fun f fn hf hfn => by
      obtain rfl : f = 3 := Option.some.inj ((show Tryd.prog.funcNamed Rows.fnWordNamesRow.func = some 3 by kernel_rfl).symm.trans hf) |>.symm
      obtain rfl : fn = Tryd.f3 := (Option.some.inj (Tryd.func3.symm.trans hfn)).symm
      exact ⟨by kernel_rfl, fun j t ht => by
        rw [Tryd.params3] at ht
        have hm : t ∈ [22] := by simpa using Array.mem_of_getElem? ht
        have hall : ([22].all fun u => !Tryd.prog.wantsStandIn u) = true := by kernel_rfl
        exact (show Tryd.prog.wantsStandIn t = false by simpa using List.all_eq_true.1 hall t hm)⟩)
    (by kernel_rfl)
#print axioms proved
end Go.Proofs.YtopjmmkkdabjpaaDoor.fnWordNames
