/- What is left, in a map by its place: what it reads as; who is taken; the places, sorted. -/
import Derived.Test.YtijihgkhdknkeaaMvOk
import Derived.Test.YtijihgkhdknkeaaMvSeq
import Derived.Test.YtijihgkhdknkeaaSortLay
import Derived.Maps.RangeWalk
import Derived.Maps.OwnSet
import Derived.Maps.Views
import Derived.Maps.OwnOps
import Derived.Sort.OwnSortedInts
namespace Go.Proofs.Ytijihgkhdknkeaa
open Go.ChangeShapes Go.WideShapes Go.ChangeAt Go.RowKit
set_option linter.unusedVariables false

/-- How a move in the map reads. -/
def spotElem (v : Value) : Option (DataW Unit × List MemPlace) :=
  match v with
  | .agg cs => (match cs.toList with | [.int .i64 a, .int .i64 b] => some (.agg [.lit (.int .i64 a), .lit (.int .i64 b)], []) | _ => none)
  | _ => none
def mvVal (c : ArmD) : Value := .agg #[.int .i64 c.fr, .int .i64 c.v]
def litOf (c : ArmD) : DataW Unit := .agg [.lit (.int .i64 c.fr), .lit (.int .i64 c.v)]
theorem litOf_inj {a b : ArmD} (h : litOf a = litOf b) : a = b := by
  obtain ⟨a1, a2⟩ := a
  obtain ⟨b1, b2⟩ := b
  simp [litOf] at h
  rw [h.1, h.2]
theorem spotElem_mk (c : ArmD) : spotElem (mvVal c) = some (litOf c, []) := rfl
theorem spotElem_inv {v : Value} {y : DataW Unit × List MemPlace} (h : spotElem v = some y) : ∃ c, v = mvVal c ∧ y.1 = litOf c := by
  unfold spotElem at h
  split at h
  · rename_i cs
    split at h
    · rename_i a b e
      simp only [Option.some.injEq] at h
      refine ⟨⟨a, b⟩, ?_, by rw [← h]; rfl⟩
      unfold mvVal
      congr 1
      apply Array.toList_inj.1
      rw [e]
    · cases h
  · cases h
theorem keyed_int : Maps.Keyed Try.prog 3 := Maps.int_keyed Try.underlying3
/-- The map reads as f. -/
def ReadsF (D : DataW Unit) (f : Int → Option ArmD) : Prop := (∀ x : Int, Maps.has D (.int .i64 x) = (f x).isSome) ∧ ∀ x m, f x = some m → ∀ z, D.atKey (.int .i64 x) z = litOf m
def MapF (w : World) (mb n : Nat) (f : Int → Option ArmD) : Prop := ∃ D : DataW Unit, w.ownsMap Try.prog 3 spotElem mb n D ∧ ReadsF D f
theorem ReadsF.got {D : DataW Unit} {f : Int → Option ArmD} (h : ReadsF D f) {x : Int} {c : ArmD} (hat : ∀ z, D.atKey (.int .i64 x) z = litOf c) : f x = some c := by
  have h1 := Maps.has_true_of_atKey hat
  rw [h.1 x] at h1
  cases hf : f x with
  | none => rw [hf] at h1; cases h1
  | some m =>
    have h2 := h.2 x m hf (.lit (.int .i64 0))
    rw [hat] at h2
    rw [litOf_inj h2]
theorem ReadsF.put {D : DataW Unit} {f : Int → Option ArmD} (h : ReadsF D f) (hm : Maps.IsMap D) (k : Int) (c : ArmD) : ReadsF (D.put (.int .i64 k) (litOf c)) (fun x => if x = k then some c else f x) := by
  refine ⟨fun x => ?_, fun x m hx z => ?_⟩
  · by_cases e : x = k
    · subst e
      rw [Maps.has_put_same hm (by trivial)]
      simp
    · rw [Maps.has_put_other (by simpa using e), h.1 x]
      simp [e]
  · by_cases e : x = k
    · subst e
      rw [Maps.atKey_put_same hm (by trivial)]
      simp at hx
      rw [hx]
    · rw [Maps.atKey_put_other (by simpa using e)]
      simp [e] at hx
      exact h.2 x m hx z
theorem ReadsF.del {D : DataW Unit} {f : Int → Option ArmD} (h : ReadsF D f) (k : Int) : ReadsF (D.del (.int .i64 k)) (fun x => if x = k then none else f x) := by
  refine ⟨fun x => ?_, fun x m hx z => ?_⟩
  · by_cases e : x = k
    · subst e
      rw [Maps.has_del_same]
      simp
    · rw [Maps.has_del_other (by simpa using e), h.1 x]
      simp [e]
  · by_cases e : x = k
    · subst e
      simp at hx
    · rw [Maps.atKey_del_other (by simpa using e)]
      simp [e] at hx
      exact h.2 x m hx z
theorem MapF.kept {w w' : World} {mb n : Nat} {f : Int → Option ArmD} (h : MapF w mb n f) (hb : Below w.heap.size w w') : MapF w' mb n f := by
  obtain ⟨D, ⟨es, ck, h1, h2⟩, h3⟩ := h
  exact ⟨D, ⟨es, ck, (hb.block mb (Array.getElem?_eq_some_iff.1 h1).1).trans h1, h2⟩, h3⟩
theorem MapF.lt {w : World} {mb n : Nat} {f : Int → Option ArmD} (h : MapF w mb n f) : mb < w.heap.size := by
  obtain ⟨D, h1, _⟩ := h
  exact h1.lt
theorem MapF.congr {w : World} {mb n : Nat} {f g : Int → Option ArmD} (h : MapF w mb n f) (e : ∀ x, f x = g x) : MapF w mb n g := by
  have : f = g := funext e
  rwa [this] at h
theorem isMap_of {w : World} {mb n : Nat} {D : DataW Unit} (h : w.ownsMap Try.prog 3 spotElem mb n D) : Maps.IsMap D := by
  obtain ⟨es, ck, _, _, _, rfl⟩ := h
  exact ⟨_, rfl⟩
/-- What lies elsewhere stays when the map is turned. -/
theorem OwnMoves.grownBy {w w' : World} {lo mb : Nat} {v : Value} {l : List ArmD} (h : OwnMoves w lo v l) (hg : w.grownBy w' (some mb)) (hm : ∃ es ck, w.heap[mb]? = some (.map es ck)) : OwnMoves w' lo v l := by
  refine World.ownsRow.kept h hg ?_
  obtain ⟨es, ck, hm⟩ := hm
  rcases h.2 with ⟨rfl, _⟩ | ⟨g, cap, cur, rfl, _, hgb, _⟩
  · exact .inl rfl
  · refine .inr (fun e => ?_)
    simp [Value.ownBlock] at e
    subst e
    rw [hm] at hgb
    cases hgb
theorem OwnInts.grownBy {w w' : World} {lo mb : Nat} {v : Value} {l : List Int} (h : OwnInts w lo v l) (hg : w.grownBy w' (some mb)) (hm : ∃ es ck, w.heap[mb]? = some (.map es ck)) : OwnInts w' lo v l := by
  refine World.ownsRow.kept h hg ?_
  obtain ⟨es, ck, hm⟩ := hm
  rcases h.2 with ⟨rfl, _⟩ | ⟨g, cap, cur, rfl, _, hgb, _⟩
  · exact .inl rfl
  · refine .inr (fun e => ?_)
    simp [Value.ownBlock] at e
    subst e
    rw [hm] at hgb
    cases hgb
theorem MapF.isMap {w : World} {mb n : Nat} {f : Int → Option ArmD} (h : MapF w mb n f) : ∃ es ck, w.heap[mb]? = some (.map es ck) := by
  obtain ⟨D, ⟨es, ck, h1, _⟩, _⟩ := h
  exact ⟨es, ck, h1⟩

/-! ### By places -/

def mget (M : List (Nat × ArmD)) (x : Int) : Option ArmD := (M.find? (fun p => decide ((p.1 : Int) = x))).map (fun p => p.2)
/-- The places are ascending. -/
def KeysUp (M : List (Nat × ArmD)) : Prop := (M.map (fun p => p.1)).Pairwise (· < ·)
theorem keys_one {M : List (Nat × ArmD)} (h : KeysUp M) {p q : Nat × ArmD} (hp : p ∈ M) (hq : q ∈ M) (e : p.1 = q.1) : p = q := by
  unfold KeysUp at h
  rw [List.pairwise_map, List.pairwise_iff_getElem] at h
  obtain ⟨i, hi, rfl⟩ := List.mem_iff_getElem.1 hp
  obtain ⟨j, hj, rfl⟩ := List.mem_iff_getElem.1 hq
  rcases Nat.lt_trichotomy i j with h1 | h1 | h1
  · have := h i j hi hj h1; omega
  · subst h1; rfl
  · have := h j i hj hi h1; omega
theorem mget_iff {M : List (Nat × ArmD)} (h : KeysUp M) {x : Int} {m : ArmD} : mget M x = some m ↔ ∃ k, (k, m) ∈ M ∧ (k : Int) = x := by
  unfold mget
  constructor
  · intro e
    obtain ⟨p, hp, rfl⟩ := Option.map_eq_some_iff.1 e
    have h1 := List.mem_of_find?_eq_some hp
    have h2 := List.find?_some hp
    exact ⟨p.1, h1, by simpa using h2⟩
  · rintro ⟨k, hk, rfl⟩
    cases hf : M.find? (fun p => decide ((p.1 : Int) = (k : Int))) with
    | none =>
      have := List.find?_eq_none.1 hf (k, m) hk
      simp at this
    | some p =>
      have h1 := List.mem_of_find?_eq_some hf
      have h2 := List.find?_some hf
      simp at h2
      have := keys_one h h1 hk (by omega)
      rw [this]
      rfl
theorem option_ext {a b : Option ArmD} (h : ∀ m, a = some m ↔ b = some m) : a = b := by
  cases a with
  | none => cases b with
    | none => rfl
    | some m => exact ((h m).2 rfl)
  | some m => exact ((h m).1 rfl).symm
theorem KeysUp.sub {M M' : List (Nat × ArmD)} (h : KeysUp M) (hs : M'.Sublist M) : KeysUp M' := List.Pairwise.sublist (hs.map _) h
theorem KeysUp.add {M : List (Nat × ArmD)} (h : KeysUp M) {k : Nat} (hk : ∀ p ∈ M, p.1 < k) (m : ArmD) : KeysUp (M ++ [(k, m)]) := by
  unfold KeysUp at h ⊢
  rw [List.map_append, List.pairwise_append]
  refine ⟨h, by simp, fun a ha b hb => ?_⟩
  obtain ⟨p, hp, rfl⟩ := List.mem_map.1 ha
  simp at hb
  subst hb
  exact hk p hp
theorem mget_add {M : List (Nat × ArmD)} (h : KeysUp M) {k : Nat} (hk : ∀ p ∈ M, p.1 < k) (m : ArmD) (x : Int) : mget (M ++ [(k, m)]) x = if x = (k : Int) then some m else mget M x := by
  apply option_ext
  intro c
  rw [mget_iff (h.add hk m)]
  split
  · rename_i e
    subst e
    constructor
    · rintro ⟨j, hj, e⟩
      rcases List.mem_append.1 hj with hj | hj
      · have := hk _ hj; dsimp only at this; omega
      · simp at hj; rw [hj.2]
    · intro e
      cases e
      exact ⟨k, by simp, rfl⟩
  · rename_i e
    rw [mget_iff h]
    constructor
    · rintro ⟨j, hj, e2⟩
      rcases List.mem_append.1 hj with hj | hj
      · exact ⟨j, hj, e2⟩
      · simp at hj; rw [hj.1] at e2; exact absurd e2.symm e
    · rintro ⟨j, hj, e2⟩
      exact ⟨j, by simp [hj], e2⟩
theorem mget_erase {M : List (Nat × ArmD)} (h : KeysUp M) {i : Nat} {p : Nat × ArmD} (hp : M[i]? = some p) (x : Int) : mget (M.eraseIdx i) x = if x = (p.1 : Int) then none else mget M x := by
  apply option_ext
  intro c
  rw [mget_iff (h.sub (List.eraseIdx_sublist _ _))]
  split
  · rename_i e
    subst e
    constructor
    · rintro ⟨j, hj, e⟩
      rw [List.mem_eraseIdx_iff_getElem?] at hj
      obtain ⟨q, hqi, hq⟩ := hj
      have h2 := keys_one h (List.mem_of_getElem? hq) (List.mem_of_getElem? hp) (by dsimp only; omega)
      have hlt := (List.getElem?_eq_some_iff.1 hq).1
      have hlt2 := (List.getElem?_eq_some_iff.1 hp).1
      unfold KeysUp at h
      rw [List.pairwise_map, List.pairwise_iff_getElem] at h
      have e1 := (List.getElem?_eq_some_iff.1 hq).2
      have e2 := (List.getElem?_eq_some_iff.1 hp).2
      rcases Nat.lt_or_gt_of_ne hqi with h3 | h3
      · have := h q i hlt hlt2 h3; rw [e1, e2, h2] at this; omega
      · have := h i q hlt2 hlt h3; rw [e1, e2, h2] at this; omega
    · intro e; cases e
  · rename_i e
    rw [mget_iff h]
    constructor
    · rintro ⟨j, hj, e2⟩
      exact ⟨j, (List.eraseIdx_sublist _ _).subset hj, e2⟩
    · rintro ⟨j, hj, e2⟩
      refine ⟨j, ?_, e2⟩
      rw [List.mem_eraseIdx_iff_getElem?]
      obtain ⟨q, hq⟩ := List.mem_iff_getElem?.1 hj
      refine ⟨q, fun e3 => ?_, hq⟩
      subst e3
      rw [hp] at hq
      cases hq
      exact e e2.symm
theorem KeysUp.map {M : List (Nat × ArmD)} (h : KeysUp M) (g : ArmD → ArmD) : KeysUp (M.map (fun p => (p.1, g p.2))) := by
  unfold KeysUp at h ⊢
  rw [List.map_map]
  exact h
theorem mget_map {M : List (Nat × ArmD)} (h : KeysUp M) (g : ArmD → ArmD) (x : Int) : mget (M.map (fun p => (p.1, g p.2))) x = (mget M x).map g := by
  apply option_ext
  intro c
  rw [mget_iff (h.map g), Option.map_eq_some_iff]
  constructor
  · rintro ⟨k, hk, e⟩
    obtain ⟨p, hp, e2⟩ := List.mem_map.1 hk
    simp at e2
    exact ⟨p.2, (mget_iff h).2 ⟨p.1, hp, by omega⟩, e2.2⟩
  · rintro ⟨m, hm, rfl⟩
    obtain ⟨k, hk, e⟩ := (mget_iff h).1 hm
    exact ⟨k, List.mem_map.2 ⟨(k, m), hk, rfl⟩, e⟩
/-- The places of what is left. -/
def keysOf (M : List (Nat × ArmD)) : List Int := M.map (fun p => (p.1 : Int))
theorem keys_mem {M : List (Nat × ArmD)} (h : KeysUp M) {x : Int} : x ∈ keysOf M ↔ (mget M x).isSome = true := by
  unfold keysOf
  rw [List.mem_map]
  constructor
  · rintro ⟨p, hp, rfl⟩
    rw [(mget_iff h).2 ⟨p.1, hp, rfl⟩]
    rfl
  · intro hs
    cases hg : mget M x with
    | none => rw [hg] at hs; cases hs
    | some m =>
      obtain ⟨k, hk, e⟩ := (mget_iff h).1 hg
      exact ⟨(k, m), hk, e⟩
theorem keys_up {M : List (Nat × ArmD)} (h : KeysUp M) : (keysOf M).Pairwise (· < ·) := by
  unfold KeysUp at h
  unfold keysOf
  rw [List.pairwise_map] at h ⊢
  exact h.imp (fun h => by omega)
def sortI (l : List Int) : List Int := l.mergeSort fun x y => decide (x ≤ y)
theorem sortI_len (l : List Int) : (sortI l).length = l.length := (List.mergeSort_perm l _).length_eq
theorem sortI_up (l : List Int) : (sortI l).Pairwise (· ≤ ·) := by
  have h := List.pairwise_mergeSort (le := fun x y : Int => decide (x ≤ y)) (by intro a b c h1 h2; simp at h1 h2 ⊢; omega) (by intro a b; simp; omega) l
  exact h.imp (fun h => by simpa using h)
theorem sorted_eq (l m : List Int) (h1 : l.Pairwise (· ≤ ·)) (h2 : m.Pairwise (· ≤ ·)) (hp : l.Perm m) : l = m :=
  List.Perm.eq_of_pairwise (le := fun a b => decide (a ≤ b)) (by intros; simp_all; omega) (by simpa using h1) (by simpa using h2) hp
theorem sort_keys {M : List (Nat × ArmD)} (h : KeysUp M) {ss : List Int} (hn : ss.Nodup) (hs : ∀ x, x ∈ ss ↔ (mget M x).isSome = true) : sortI ss = keysOf M := by
  refine sorted_eq _ _ (sortI_up _) ((keys_up h).imp (fun h => by omega)) ((List.mergeSort_perm _ _).trans ?_)
  refine (List.perm_ext_iff_of_nodup hn ((keys_up h).imp (fun h => by omega))).2 (fun x => ?_)
  rw [hs x, keys_mem h]
/-- The library's sort over a list of the call's own. -/
theorem sort_any (lo g cap n : Nat) (l : List Int) (hn : l.length = n) (w : World) (h : OwnInts w lo (.slice (some ⟨g, 0, none⟩) n cap) l) (hl : n ≤ 2000) :
    Calls Try.prog 47 #[.slice (some ⟨g, 0, none⟩) n cap] w fun e w' => (∃ r, e = .returned r) ∧ OwnInts w' lo (.slice (some ⟨g, 0, none⟩) n cap) (sortI l) ∧ Below lo w w' := by
  subst hn
  rcases h.2 with ⟨h0, _⟩ | ⟨g', cap', cur, hv, hlo, hg, h1, h2, h3, h4⟩
  · cases h0
  cases hv
  have hlt : g < w.heap.size := (Array.getElem?_eq_some_iff.1 hg).1
  have hc := Any.slices_Sort_int Try.lays189 g 0 cap l w (holds_of_blockI hg (by simpa using h4)) hlt (by omega)
  refine Calls.mono hc ?_
  rintro e w' ⟨rfl, n, os, rfl⟩
  refine ⟨⟨_, rfl⟩, ?_, ?_⟩
  · unfold OwnInts
    rw [sortI_len]
    exact ownsRow_sortedI (ss := l) (ts := sortI l) (sortI_len l) hlo hg h1 h2 h3
  · refine (Below.refl lo w).grown (grownBy_sortedI _) (by omega) fun j ej => ?_
    cases ej
    exact hlo
end Go.Proofs.Ytijihgkhdknkeaa
