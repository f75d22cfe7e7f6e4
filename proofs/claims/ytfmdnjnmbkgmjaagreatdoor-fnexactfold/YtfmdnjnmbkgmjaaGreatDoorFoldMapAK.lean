/- What is known to be a number, in a map whose keys are structs; a place is folded, and learned from. -/
import Derived.Test.YtfmdnjnmbkgmjaaGreatDoorFoldDefK
import Derived.Test.YtfmdnjnmbkgmjaaGreatDoorKUsA
import Derived.Test.YtfmdnjnmbkgmjaaGreatDoorKSh3b
import Derived.Test.YtfmdnjnmbkgmjaaGreatDoorKIns
import Derived.Test.YtfmdnjnmbkgmjaaGreatDoorKOwnF
import Derived.Test.YtfmdnjnmbkgmjaaGreatDoorKFnCo
import Derived.Test.YtfmdnjnmbkgmjaaGreatDoorKLast
namespace Go.Proofs.YtfmdnjnmbkgmjaaGreatDoor
open Go.ChangeShapes Go.WideShapes Go.ChangeAt Go.RowKit
set_option linter.unusedVariables false
set_option maxRecDepth 100000
def factN (v : Int) : Value := .agg #[.int .i64 0, .int .i64 v]
theorem factN_keys : ((List.range 80).all (fun v => (keyOf Tryz.prog 200 (factN (v : Int))).isSome)) = true := by kernel_rfl
noncomputable def nk (v : Int) : Lit := (keyOf Tryz.prog 200 (factN v)).getD (.bool false)
theorem nk_key {v : Int} (h : 0 ≤ v ∧ v < 80) : keyOf Tryz.prog 200 (factN v) = some (nk v) := by
  have h1 := List.all_eq_true.1 factN_keys v.toNat (by simp; omega)
  rw [Int.toNat_of_nonneg h.1] at h1
  unfold nk
  cases hk : keyOf Tryz.prog 200 (factN v) with
  | none => rw [hk] at h1; cases h1
  | some l => rfl
theorem nk_inj {u v : Int} (hu : 0 ≤ u ∧ u < 80) (hv : 0 ≤ v ∧ v < 80) (h : nk u = nk v) : u = v := by
  have h1 := nk_key hu
  have h2 := nk_key hv
  rw [← h] at h2
  have := fact_keyed.inj h1 h2
  simpa [factN] using this
theorem nk_lit {v : Int} (h : 0 ≤ v ∧ v < 80) : WideAt.IsKeyLit (nk v) := fact_keyed.key (nk_key h)
def numElem : Value → Option (DataW Unit × List MemPlace)
  | .int .i64 z => some (.lit (.int .i64 z), [])
  | _ => none
theorem numElem_mk (z : Int) : numElem (.int .i64 z) = some (.lit (.int .i64 z), []) := rfl
theorem numElem_inv {v : Value} {y : DataW Unit × List MemPlace} (h : numElem v = some y) : ∃ z, v = .int .i64 z ∧ y.1 = .lit (.int .i64 z) := by
  unfold numElem at h
  split at h
  · rename_i z
    cases h
    exact ⟨z, rfl, rfl⟩
  · cases h
def MapN (w : World) (mb : Nat) (K : Kn) : Prop := ∃ (U : List Int) (D : DataW Unit), U.Nodup ∧ (∀ v ∈ U, 0 ≤ v ∧ v < 80) ∧ (∀ v, v ∈ U ↔ (K v).isSome = true) ∧ w.ownsMap Tryz.prog 200 numElem mb 80 D ∧ (∀ v, 0 ≤ v ∧ v < 80 → Maps.has D (nk v) = (K v).isSome ∧ ∀ z d0, K v = some z → D.atKey (nk v) d0 = .lit (.int .i64 z)) ∧ Maps.size D = U.length
theorem MapN.same {w w' : World} {mb : Nat} {K : Kn} (h : MapN w mb K) (hb : w'.heap[mb]? = w.heap[mb]?) : MapN w' mb K := by
  obtain ⟨U, D, h1, h2, h3, ⟨es, ck, h4, h5⟩, h6⟩ := h
  exact ⟨U, D, h1, h2, h3, ⟨es, ck, hb.trans h4, h5⟩, h6⟩
theorem MapN.lt {w : World} {mb : Nat} {K : Kn} (h : MapN w mb K) : mb < w.heap.size := by
  obtain ⟨U, D, _, _, _, h1, _⟩ := h
  exact h1.lt
theorem MapN.kept {w w' : World} {mb : Nat} {K : Kn} (h : MapN w mb K) (hb : Below w.heap.size w w') : MapN w' mb K := h.same (hb.block mb h.lt)
theorem MapN.isMap {w : World} {mb : Nat} {K : Kn} (h : MapN w mb K) : ∃ es ck, w.heap[mb]? = some (.map es ck) := by
  obtain ⟨U, D, _, _, _, ⟨es, ck, h1, _⟩, _⟩ := h
  exact ⟨es, ck, h1⟩
theorem MapN.put {w w' : World} {mb : Nat} {K : Kn} {U : List Int} {D : DataW Unit} {v z : Int} (hv : 0 ≤ v ∧ v < 80) (hn : U.Nodup) (hs : ∀ v ∈ U, 0 ≤ v ∧ v < 80) (hu : ∀ v, v ∈ U ↔ (K v).isSome = true) (hD : w.ownsMap Tryz.prog 200 numElem mb 80 D) (hh : ∀ v, 0 ≤ v ∧ v < 80 → Maps.has D (nk v) = (K v).isSome ∧ ∀ z d0, K v = some z → D.atKey (nk v) d0 = .lit (.int .i64 z)) (hz : Maps.size D = U.length)
    (h' : w'.ownsMap Tryz.prog 200 numElem mb (80 + 1) (D.put (nk v) (.lit (.int .i64 z)))) : MapN w' mb (fun x => if x = v then some z else K x) := by
  have ht := hD.tidy fact_keyed
  have hsz := Maps.size_put (k := nk v) ht (.lit (.int .i64 z))
  rw [(hh v hv).1, hz] at hsz
  have hn' : (if v ∈ U then U else U ++ [v]).Nodup := by
    split
    · exact hn
    · rename_i hv'
      rw [List.nodup_append]
      refine ⟨hn, by simp, fun a ha b hb e => ?_⟩
      simp at hb
      subst hb
      subst e
      exact hv' ha
  have hs' : ∀ x ∈ (if v ∈ U then U else U ++ [v]), 0 ≤ x ∧ x < 80 := fun x hx => by
    split at hx
    · exact hs x hx
    · rcases List.mem_append.1 hx with hx | hx
      · exact hs x hx
      · simp at hx; rw [hx]; exact hv
  have hlen : Maps.size (D.put (nk v) (.lit (.int .i64 z))) = (if v ∈ U then U else U ++ [v]).length := by
    rw [hsz]
    by_cases e : v ∈ U
    · rw [if_pos e, (hu v).1 e]; rfl
    · have : (K v).isSome = false := by
        cases h9 : (K v).isSome with
        | false => rfl
        | true => exact absurd ((hu v).2 h9) e
      rw [if_neg e, this]; simp
  refine ⟨_, _, hn', hs', fun x => ?_, retight h' (by rw [hlen]; exact small_list hn' hs'), fun x hx => ?_, hlen⟩
  · dsimp only
    by_cases e : x = v
    · subst e
      rw [if_pos rfl]
      split <;> simp_all
    · rw [if_neg e, ← hu x]
      split
      · rfl
      · simp [e]
  · dsimp only
    by_cases e : x = v
    · subst e
      rw [if_pos rfl]
      refine ⟨Maps.has_put_same ht.isMap (nk_lit hx) _, fun z2 d0 h2 => ?_⟩
      cases h2
      exact Maps.atKey_put_same ht.isMap (nk_lit hx) _ _
    · rw [if_neg e]
      have hne : nk x ≠ nk v := fun e2 => e (nk_inj hx hv e2)
      refine ⟨(Maps.has_put_other hne _).trans (hh x hx).1, fun z2 d0 h2 => ?_⟩
      rw [Maps.atKey_put_other hne]
      exact (hh x hx).2 z2 d0 h2
theorem mapN_new (w : World) : MapN (w.alloc (.map #[] 0)) w.heap.size noKn := by
  refine ⟨[], .map [], List.nodup_nil, fun v hv => (by cases hv), fun v => by simp [noKn], (World.ownsMap_made w _ _ _).mono (Nat.zero_le _), fun v hv => ⟨rfl, fun z d0 h => by cases h⟩, rfl⟩
def placeW (x : InsD) : Value := .agg #[.int .i64 x.op, .int .i64 x.d, .int .i64 x.a, .int .i64 x.b, .int .i64 x.n]
set_option maxHeartbeats 4000000 in
theorem learn_any (mb : Nat) (K : Kn) (op d a b n : Int) (w : World) (hm : MapN w mb K) (hin : InsIn ⟨op, d, a, b, n⟩) :
    Calls Tryz.prog 103 #[.map (some mb), .agg #[.int .i64 op, .int .i64 d, .int .i64 a, .int .i64 b, .int .i64 n]] w fun e w' => (∃ r, e = .returned r) ∧ Fr mb w w' ∧ MapN w' mb (learnX K ⟨op, d, a, b, n⟩) := by
  have HM : Hid (MapN w mb K) := hm
  have hmx : 5000 ≤ maxLen := by decide
  clear hm
  go_enter Tryz.func103, Tryz.ntmps103
  go_wp2_with fail
  refine (placeOf_any op d a b n _).mono ?_
  rintro e w1 ⟨rfl, b1⟩
  have B1 : Hid (Below w.heap.size w w1) := Bel.after (Bel.alloc _ _) b1
  clear b1
  have y1 := constPlace_yes
  have n1 := constPlace_no
  have z1 := constPlace_nil
  by_cases h20 : op = 20
  · have HV : Hid (0 ≤ d ∧ d < 80) := hin.2 h20
    subst h20
    simp only [placeV, if_true]
    obtain ⟨U, D, hn, hsm, hu, hown, hh, hz⟩ := HM.out.kept (Bel.after B1.out (Bel.alloc w1 (.cells #[.int .i64 d, .int .i64 n] 211)))
    have HPUT : Hid (∀ w', w'.ownsMap Tryz.prog 200 numElem mb (80 + 1) (D.put (nk d) (.lit (.int .i64 n))) → MapN w' mb (fun x => if x = d then some n else K x)) := fun w' h => MapN.put HV.out hn hsm hu hown hh hz h
    have HOWN : Hid ((w1.alloc (.cells #[.int .i64 d, .int .i64 n] 211)).ownsMap Tryz.prog 200 numElem mb 80 D) := hown
    have HKEY : Hid (keyOf Tryz.prog 200 (.agg #[.int .i64 0, .int .i64 d]) = some (nk d)) := nk_key HV.out
    clear hn hsm hu hown hh hz n1 z1 hin
    go_wp2_with (at_mapUpdate; refine wpList_mapUpdate_own _ rfl _ _ _ 76 rfl 200 3 fact_keyed Tryz.underlying76 _ mb 80 D rfl HOWN.out (by omega) _ _ _ rfl rfl HKEY.out _ _ (numElem_mk n) ?_; intro w2 hown2 hg2; have HM2 : Hid (MapN w2 mb (fun x => if x = d then some n else K x)) := HPUT.out w2 hown2; have HG2 : Hid (World.grownBy _ w2 (some mb)) := hg2; clear hown2 hg2)
    go_end0
    refine ⟨⟨_, rfl⟩, (Fr.ofBelow (Bel.after B1.out (Bel.alloc _ _))).trans ⟨HG2.out.os, HG2.out.tape, HG2.out.output, HG2.out.size, fun q hq hp => HG2.out.block q hq (by simpa using hp)⟩, ?_⟩
    have e : learnX K ⟨20, d, a, b, n⟩ = (fun x => if x = d then some n else K x) := by simp [learnX]
    rw [e]
    exact HM2.out
  · have HE : Hid (learnX K ⟨op, d, a, b, n⟩ = K) := by show _ = _; simp [learnX, h20]
    clear hin
    rcases op_cases op with h | h | h | h | h | h | ⟨⟨e0, e1, e2, e3, e4, e5⟩, ⟨h, h1⟩ | h | ⟨h1, h⟩⟩
    · exact absurd h h20
    all_goals
      first | (subst h; simp only [placeV, if_true, if_false, Int.reduceEq]) | (rw [placeV_word e0 e1 e2 e3 e4 e5 h h1]) | (rw [placeV_none e0 e1 e2 e3 e4 e5 (by omega)])
      clear h20
      go_wp2_with fail
      go_end0
      rw [HE.out]
      exact ⟨⟨_, rfl⟩, Fr.ofBelow (Bel.after B1.out (Bel.alloc _ _)), HM.out.kept (Bel.after B1.out (Bel.alloc _ _))⟩
theorem insAt_alloc {w : World} {B o : Nat} {z : InsD} (h : InsAt w B o z) (ob : Obj) : InsAt (w.alloc ob) B o z := h.keep (Keeps.of_below (Bel.alloc w ob) 0) (Nat.zero_le _)
theorem putIns_below {lo : Nat} {w0 w : World} {B : Nat} (h : Below lo w0 w) (hB : lo ≤ B) (o : Nat) (y : InsD) : Below lo w0 (putIns w B o y) := by
  unfold putIns
  exact ((((h.setCell (p := ⟨B, o, none⟩) hB _).setCell (p := ⟨B, o + 1, none⟩) hB _).setCell (p := ⟨B, o + 2, none⟩) hB _).setCell (p := ⟨B, o + 3, none⟩) hB _).setCell (p := ⟨B, o + 4, none⟩) hB _
theorem wpList_store_ins {ops : Array Oper} {rest : List Oper} {op : Oper} {a : Act} {w : World} {Q : Exit → Act → World → Prop} (hgd : op.guard = none) (x y : Operand) (ho : op.op = .store 57 x y) (B o : Nat) (o5 d5 a5 b5 n5 : Int)
    (hx : a.eval x = .pointer (some ⟨B, o, none⟩)) (hy : a.eval y = .agg #[.int .i64 o5, .int .i64 d5, .int .i64 a5, .int .i64 b5, .int .i64 n5]) {z : InsD} (hat : InsAt w B o z) (hz : ∀ j, w.frozen? ⟨B, j, none⟩ = false) (hK : wpList Tryz.prog ops Q rest (a.put op.dst undef) (putIns w B o ⟨o5, d5, a5, b5, n5⟩)) : wpList Tryz.prog ops Q (op :: rest) a w := by
  obtain ⟨r0, r1, r2, r3, r4⟩ := hat
  refine wpList_store_mid hgd 57 x y ho B o _ hx hy (fun j hj => ?_) (by kernel_rfl) (by simp [Value.oneCell']) ?_
  · have hj5 : j = 0 ∨ j = 1 ∨ j = 2 ∨ j = 3 ∨ j = 4 := by have : j < 5 := hj; omega
    rcases hj5 with rfl | rfl | rfl | rfl | rfl
    · exact ⟨by rw [Nat.add_zero, r0]; rfl, hz _⟩
    · exact ⟨by rw [r1]; rfl, hz _⟩
    · exact ⟨by rw [r2]; rfl, hz _⟩
    · exact ⟨by rw [r3]; rfl, hz _⟩
    · exact ⟨by rw [r4]; rfl, hz _⟩
  · exact hK
end Go.Proofs.YtfmdnjnmbkgmjaaGreatDoor
