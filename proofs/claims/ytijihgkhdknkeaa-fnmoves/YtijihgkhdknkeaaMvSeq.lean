/- The row that does moves one behind the other: as steps over lists; it ends, and it does what they do at once. -/
import Derived.Test.YtijihgkhdknkeaaMvDef
namespace Go.Proofs.Ytijihgkhdknkeaa
open Go.ChangeShapes Go.WideShapes Go.ChangeAt Go.RowKit
set_option linter.unusedVariables false

/-- Is v taken? -/
def mvTaken (left : List ArmD) (v : Int) : Bool := left.any (fun y => y.v == v)
/-- The first one whose D nobody takes. -/
def mvFree (left : List ArmD) : Option Nat := left.findIdx? (fun x => !(mvTaken left x.fr))
/-- Whoever takes old takes n. -/
def mvFrom (n old : Int) (x : ArmD) : ArmD := if x.v = old then ⟨x.fr, n⟩ else x
/-- One step. -/
def seqStep (n : Int) (s : List ArmD × List ArmD) : List ArmD × List ArmD :=
  match s.1 with
  | [] => s
  | x :: r => match mvFree (x :: r) with
    | some i => ((x :: r).eraseIdx i, s.2 ++ [(x :: r).getD i x])
    | none => ((x :: r).map (mvFrom n x.fr), s.2 ++ [⟨n, x.fr⟩])
def seqN (n : Int) : Nat → List ArmD × List ArmD → List ArmD × List ArmD
  | 0, s => s
  | k + 1, s => seqN n k (seqStep n s)
def seqInit (l : List ArmD) : List ArmD := l.filter (fun x => decide (x.fr ≠ x.v))
def seqOf (n : Int) (l : List ArmD) : List ArmD := (seqN n (2 * l.length) (seqInit l, [])).2

theorem seqStep_nil (n : Int) (o : List ArmD) : seqStep n ([], o) = ([], o) := rfl
theorem seqN_nil (n : Int) : ∀ k o, seqN n k ([], o) = ([], o)
  | 0, o => rfl
  | k + 1, o => by rw [seqN, seqStep_nil, seqN_nil n k]
theorem seqN_succ (n : Int) : ∀ k s, seqN n (k + 1) s = seqStep n (seqN n k s)
  | 0, s => rfl
  | k + 1, s => by rw [seqN, seqN_succ n k, seqN]
theorem seqN_add (n : Int) : ∀ a b s, seqN n (a + b) s = seqN n b (seqN n a s)
  | 0, b, s => by rw [Nat.zero_add]; rfl
  | a + 1, b, s => by rw [show a + 1 + b = (a + b) + 1 by omega, seqN, seqN_add n a b, seqN]

/-- What holds of what is left: D within n, each once, nobody to itself, S at most n. -/
structure LeftOk (n : Int) (left : List ArmD) : Prop where
  d : ∀ x ∈ left, 0 ≤ x.fr ∧ x.fr < n
  s : ∀ x ∈ left, 0 ≤ x.v ∧ x.v ≤ n
  ne : ∀ x ∈ left, x.fr ≠ x.v
  nd : (left.map (fun x => x.fr)).Nodup
theorem LeftOk.init {n : Int} {l : List ArmD} (h : movesOk l n = true) : LeftOk n (seqInit l) := by
  obtain ⟨h1, h2⟩ := movesOk_fine h
  have hm : ∀ x ∈ seqInit l, x ∈ l ∧ x.fr ≠ x.v := fun x hx => by simpa [seqInit] using hx
  refine ⟨fun x hx => ?_, fun x hx => ?_, fun x hx => (hm x hx).2, (List.Sublist.map _ List.filter_sublist).nodup h2⟩
  · have := mvIn_iff.1 (h1 x (hm x hx).1); omega
  · have := mvIn_iff.1 (h1 x (hm x hx).1); omega
theorem LeftOk.erase {n : Int} {left : List ArmD} (h : LeftOk n left) (i : Nat) : LeftOk n (left.eraseIdx i) := by
  have hs : (left.eraseIdx i).Sublist left := List.eraseIdx_sublist _ _
  exact ⟨fun x hx => h.d x (hs.subset hx), fun x hx => h.s x (hs.subset hx), fun x hx => h.ne x (hs.subset hx), (hs.map _).nodup h.nd⟩
theorem mvFrom_fr (n old : Int) (x : ArmD) : (mvFrom n old x).fr = x.fr := by unfold mvFrom; split <;> rfl
theorem LeftOk.from {n : Int} {left : List ArmD} (h : LeftOk n left) (old : Int) (hn : 0 ≤ n) : LeftOk n (left.map (mvFrom n old)) := by
  refine ⟨fun x hx => ?_, fun x hx => ?_, fun x hx => ?_, ?_⟩
  · obtain ⟨y, hy, rfl⟩ := List.mem_map.1 hx
    rw [mvFrom_fr]
    exact h.d y hy
  · obtain ⟨y, hy, rfl⟩ := List.mem_map.1 hx
    unfold mvFrom
    split
    · exact ⟨hn, Int.le_refl _⟩
    · exact h.s y hy
  · obtain ⟨y, hy, rfl⟩ := List.mem_map.1 hx
    rw [mvFrom_fr]
    unfold mvFrom
    split
    · have := h.d y hy; show y.fr ≠ n; omega
    · exact h.ne y hy
  · rw [List.map_map]
    have : ((fun x : ArmD => x.fr) ∘ mvFrom n old) = (fun x => x.fr) := by funext x; exact mvFrom_fr n old x
    rw [this]
    exact h.nd
theorem LeftOk.step {n : Int} {s : List ArmD × List ArmD} (h : LeftOk n s.1) : LeftOk n (seqStep n s).1 := by
  unfold seqStep
  split
  · exact h
  · rename_i x r hx
    rw [hx] at h
    split
    · exact h.erase _
    · exact h.from _ (by have := h.d x (by simp); omega)
theorem LeftOk.seqN {n : Int} : ∀ k {s : List ArmD × List ArmD}, LeftOk n s.1 → LeftOk n (seqN n k s).1
  | 0, _, h => h
  | k + 1, _, h => LeftOk.seqN k h.step

/-- How long it may go on. -/
def seqLen (left : List ArmD) : Nat := 2 * left.length - (if (mvFree left).isSome then 1 else 0)
theorem mvFree_some {left : List ArmD} {i : Nat} (h : mvFree left = some i) : ∃ x, left[i]? = some x ∧ mvTaken left x.fr = false ∧ ∀ j y, j < i → left[j]? = some y → mvTaken left y.fr = true := by
  unfold mvFree at h
  rw [List.findIdx?_eq_some_iff_getElem] at h
  obtain ⟨hi, h1, h2⟩ := h
  refine ⟨left[i], List.getElem?_eq_getElem hi, by simpa using h1, fun j y hj hy => ?_⟩
  have h3 := h2 j hj
  obtain ⟨_, e⟩ := List.getElem?_eq_some_iff.1 hy
  rw [e] at h3
  simpa using h3
theorem mvFree_none {left : List ArmD} (h : mvFree left = none) : ∀ x ∈ left, mvTaken left x.fr = true := by
  unfold mvFree at h
  rw [List.findIdx?_eq_none_iff] at h
  intro x hx
  simpa using h x hx
theorem mvFree_is {left : List ArmD} {i : Nat} {x : ArmD} (hx : left[i]? = some x) (h1 : mvTaken left x.fr = false) (h2 : ∀ j y, j < i → left[j]? = some y → mvTaken left y.fr = true) : mvFree left = some i := by
  unfold mvFree
  rw [List.findIdx?_eq_some_iff_getElem]
  obtain ⟨hi, e⟩ := List.getElem?_eq_some_iff.1 hx
  refine ⟨hi, by rw [e, h1]; rfl, fun j hj => ?_⟩
  have := h2 j _ hj (List.getElem?_eq_getElem (by omega))
  simp [this]
theorem mvFree_not {left : List ArmD} (h : ∀ x ∈ left, mvTaken left x.fr = true) : mvFree left = none := by
  unfold mvFree
  rw [List.findIdx?_eq_none_iff]
  intro x hx
  simp [h x hx]
theorem mvTaken_iff {left : List ArmD} {v : Int} : mvTaken left v = true ↔ ∃ y ∈ left, y.v = v := by simp [mvTaken]
theorem free_after {n : Int} {x : ArmD} {r : List ArmD} (h : LeftOk n (x :: r)) : (mvFree ((x :: r).map (mvFrom n x.fr))).isSome = true := by
  cases h9 : mvFree ((x :: r).map (mvFrom n x.fr)) with
  | some i => rfl
  | none =>
    have h1 := mvFree_none h9 (mvFrom n x.fr x) (by simp)
    rw [mvFrom_fr, mvTaken_iff] at h1
    obtain ⟨y, hy, e⟩ := h1
    obtain ⟨z, hz, rfl⟩ := List.mem_map.1 hy
    have hd := h.d x (by simp)
    unfold mvFrom at e
    split at e
    · have : n = x.fr := e
      omega
    · rename_i hne
      exact absurd e hne
theorem seqLen_step {n : Int} {x : ArmD} {r o : List ArmD} (h : LeftOk n (x :: r)) : seqLen (seqStep n (x :: r, o)).1 < seqLen (x :: r) := by
  unfold seqStep
  dsimp only
  cases h9 : mvFree (x :: r) with
  | some i =>
    dsimp only
    obtain ⟨y, hy, _⟩ := mvFree_some h9
    have hi := (List.getElem?_eq_some_iff.1 hy).1
    have hl : ((x :: r).eraseIdx i).length = r.length := by rw [List.length_eraseIdx_of_lt hi]; simp
    unfold seqLen
    rw [hl, h9]
    simp only [List.length_cons, Option.isSome_some, if_true]
    split <;> omega
  | none =>
    dsimp only
    unfold seqLen
    rw [h9, free_after h]
    simp
    omega
theorem seqN_ends {n : Int} : ∀ k {s : List ArmD × List ArmD}, LeftOk n s.1 → seqLen s.1 ≤ k → (seqN n k s).1 = []
  | 0, s, h, hk => by
    obtain ⟨left, o⟩ := s
    cases left with
    | nil => rfl
    | cons x r => have := seqLen_step (o := o) h; dsimp only at hk; omega
  | k + 1, s, h, hk => by
    obtain ⟨left, o⟩ := s
    cases left with
    | nil => rw [seqN_nil]
    | cons x r =>
      rw [seqN]
      have := seqLen_step (o := o) h
      dsimp only at hk
      exact seqN_ends k h.step (by omega)
/-- Whoever comes to the end has come to it. -/
theorem seq_end {n : Int} {l : List ArmD} (h : movesOk l n = true) {j : Nat} {o : List ArmD} (hj : seqN n j (seqInit l, []) = ([], o)) : o = seqOf n l := by
  have hle : seqLen (seqInit l) ≤ 2 * l.length := by
    have : (seqInit l).length ≤ l.length := List.length_filter_le _ _
    unfold seqLen
    omega
  have he := seqN_ends (2 * l.length) (s := (seqInit l, [])) (LeftOk.init h) hle
  unfold seqOf
  rcases Nat.le_total j (2 * l.length) with h1 | h1
  · obtain ⟨d, hd⟩ := Nat.exists_eq_add_of_le h1
    rw [hd, seqN_add, hj, seqN_nil]
  · obtain ⟨d, hd⟩ := Nat.exists_eq_add_of_le h1
    rw [hd, seqN_add] at hj
    generalize seqN n (2 * l.length) (seqInit l, []) = s at *
    obtain ⟨a, b⟩ := s
    dsimp only at he
    subst he
    rw [seqN_nil] at hj
    simpa using hj.symm
theorem seqStep_len (n : Int) (s : List ArmD × List ArmD) : (seqStep n s).2.length ≤ s.2.length + 1 := by
  unfold seqStep
  split
  · omega
  · split <;> simp
theorem seqN_len (n : Int) : ∀ k s, (seqN n k s).2.length ≤ s.2.length + k
  | 0, s => Nat.le_refl _
  | k + 1, s => by
    rw [seqN]
    have h1 := seqN_len n k (seqStep n s)
    have h2 := seqStep_len n s
    omega
theorem seqOf_len (n : Int) (l : List ArmD) : (seqOf n l).length ≤ 2 * l.length := by
  have := seqN_len n (2 * l.length) (seqInit l, [])
  simpa [seqOf] using this

/-! ### It does what they do at once -/

theorem getD_set_same {l : List Int} {i : Nat} (h : i < l.length) (x : Int) : (l.set i x).getD i 0 = x := by simp [List.getD, h]
theorem getD_set_ne {l : List Int} {i j : Nat} (h : i ≠ j) (x : Int) : (l.set i x).getD j 0 = l.getD j 0 := by simp [List.getD, h]
theorem do_miss {vals : List Int} {d : Nat} : ∀ (l : List ArmD) (acc : List Int), (∀ x ∈ l, x.fr.toNat ≠ d) → (l.foldl (fun out x => out.set x.fr.toNat (vals.getD x.v.toNat 0)) acc).getD d 0 = acc.getD d 0
  | [], acc, _ => rfl
  | x :: r, acc, h => by
    rw [List.foldl_cons, do_miss r _ (fun y hy => h y (by simp [hy])), getD_set_ne (h x (by simp))]
theorem do_hit {vals : List Int} {x : ArmD} : ∀ (l : List ArmD) (acc : List Int), x ∈ l → (∀ y ∈ l, 0 ≤ y.fr) → (l.map (fun y => y.fr)).Nodup → x.fr.toNat < acc.length →
    (l.foldl (fun out x => out.set x.fr.toNat (vals.getD x.v.toNat 0)) acc).getD x.fr.toNat 0 = vals.getD x.v.toNat 0
  | [], acc, h, _, _, _ => by cases h
  | y :: r, acc, h, h0, hn, hl => by
    rw [List.map_cons, List.nodup_cons] at hn
    rw [List.foldl_cons]
    by_cases e : x.fr = y.fr
    · have hx : x = y := by
        rcases List.mem_cons.1 h with h | h
        · exact h
        · exact absurd (List.mem_map.2 ⟨x, h, e⟩) hn.1
      subst hx
      rw [do_miss r _ (fun z hz e2 => hn.1 (List.mem_map.2 ⟨z, hz, by have := h0 z (by simp [hz]); have := h0 x (by simp); omega⟩)), getD_set_same hl]
    · rcases List.mem_cons.1 h with h | h
      · exact absurd (by rw [h]) e
      · exact do_hit r _ h (fun z hz => h0 z (by simp [hz])) hn.2 (by simpa using hl)
/-- What is left, done at once over what there is now, comes to T. -/
structure SeqInv (n : Nat) (T cur : List Int) (left : List ArmD) : Prop where
  len : cur.length = n + 1
  hit : ∀ x ∈ left, cur.getD x.v.toNat 0 = T.getD x.fr.toNat 0
  miss : ∀ d, d < n → (∀ x ∈ left, x.fr.toNat ≠ d) → cur.getD d 0 = T.getD d 0
theorem getD_left {a b : List Int} {i : Nat} (h : i < a.length) : (a ++ b).getD i 0 = a.getD i 0 := by simp [List.getD, List.getElem?_append_left h]
theorem SeqInv.init {l : List ArmD} {vals : List Int} (e : Int) (h : movesOk l vals.length = true) : SeqInv vals.length (mvDo l vals) (vals ++ [e]) (seqInit l) := by
  obtain ⟨h1, h2⟩ := movesOk_fine h
  have hm : ∀ x, x ∈ seqInit l ↔ x ∈ l ∧ x.fr ≠ x.v := fun x => by simp [seqInit]
  have h0 : ∀ y ∈ l, 0 ≤ y.fr := fun y hy => (mvIn_iff.1 (h1 y hy)).1
  refine ⟨by simp, fun x hx => ?_, fun d hd hx => ?_⟩
  · have hxl := ((hm x).1 hx).1
    have hi := mvIn_iff.1 (h1 x hxl)
    rw [getD_left (by omega)]
    exact (do_hit l vals hxl h0 h2 (by omega)).symm
  · rw [getD_left hd]
    by_cases hex : ∃ x ∈ l, x.fr.toNat = d
    · obtain ⟨x, hxl, rfl⟩ := hex
      have hi := mvIn_iff.1 (h1 x hxl)
      have he : x.fr = x.v := by
        by_cases h : x.fr = x.v
        · exact h
        · exact absurd rfl (hx x ((hm x).2 ⟨hxl, h⟩))
      have := do_hit (vals := vals) l vals hxl h0 h2 (by omega)
      unfold mvDo
      rw [this, he]
    · exact (do_miss l vals (fun x hx e => hex ⟨x, hx, e⟩)).symm
/-- As many as there are, and each there: all are there. -/
theorem all_there : ∀ (D S : List Int), D.Nodup → (∀ x ∈ D, x ∈ S) → S.length ≤ D.length → ∀ x ∈ S, x ∈ D
  | [], S, _, _, hl, x, hx => by
    have : S = [] := List.eq_nil_of_length_eq_zero (by simpa using hl)
    rw [this] at hx
    cases hx
  | d :: D, S, hn, hs, hl, x, hx => by
    rw [List.nodup_cons] at hn
    by_cases e : x = d
    · simp [e]
    · have hd : d ∈ S := hs d (by simp)
      have h1 : ∀ y ∈ D, y ∈ S.erase d := fun y hy => (List.mem_erase_of_ne (fun e2 => hn.1 (by rw [← e2]; exact hy))).2 (hs y (by simp [hy]))
      have h2 : (S.erase d).length ≤ D.length := by rw [List.length_erase_of_mem hd]; simp at hl; omega
      have := all_there D (S.erase d) hn.2 h1 h2 x ((List.mem_erase_of_ne e).2 hx)
      simp [this]
theorem nobody_takes_n {n : Int} {left : List ArmD} (h : LeftOk n left) (hf : mvFree left = none) : ∀ x ∈ left, x.v ≠ n := by
  intro x hx e
  have h1 := all_there (left.map (fun x => x.fr)) (left.map (fun x => x.v)) h.nd (fun y hy => by
    obtain ⟨z, hz, rfl⟩ := List.mem_map.1 hy
    obtain ⟨u, hu, e⟩ := mvTaken_iff.1 (mvFree_none hf z hz)
    exact List.mem_map.2 ⟨u, hu, e⟩) (by simp) x.v (List.mem_map.2 ⟨x, hx, rfl⟩)
  obtain ⟨z, hz, e2⟩ := List.mem_map.1 h1
  have := h.d z hz
  omega
theorem SeqInv.step {n : Nat} {T V : List Int} {s : List ArmD × List ArmD} (h : SeqInv n T (mvEach s.2 V) s.1) (ho : LeftOk n s.1) : SeqInv n T (mvEach (seqStep n s).2 V) (seqStep n s).1 := by
  obtain ⟨left, o⟩ := s
  cases left with
  | nil => exact h
  | cons x r =>
    unfold seqStep
    dsimp only at h ho ⊢
    cases h9 : mvFree (x :: r) with
    | some i =>
      dsimp only
      obtain ⟨y, hy, hfree, _⟩ := mvFree_some h9
      have hym : y ∈ x :: r := List.mem_of_getElem? hy
      have hgd : (x :: r).getD i x = y := by rw [List.getD_eq_getElem?_getD, hy]; rfl
      have hd := ho.d y hym
      have hs := ho.s y hym
      have hin : mvIn y (mvEach o V).length = true := by rw [h.len]; exact mvIn_iff.2 ⟨by omega, by push_cast; omega, by omega, by push_cast; omega⟩
      have hE : mvEach (o ++ [y]) V = (mvEach o V).set y.fr.toNat ((mvEach o V).getD y.v.toNat 0) := by rw [mvEach_app]; exact mvStep_in hin
      rw [hgd, hE]
      have hsub : ∀ z ∈ (x :: r).eraseIdx i, z ∈ x :: r := fun z hz => (List.eraseIdx_sublist _ _).subset hz
      have hlen := h.len
      refine ⟨by rw [List.length_set]; exact h.len, fun z hz => ?_, fun d hdn hz => ?_⟩
      · have hzm := hsub z hz
        have hne : y.fr.toNat ≠ z.v.toNat := fun e => by
          have h1 : mvTaken (x :: r) y.fr = true := mvTaken_iff.2 ⟨z, hzm, by have := ho.s z hzm; omega⟩
          rw [hfree] at h1
          cases h1
        rw [getD_set_ne hne]
        exact h.hit z hzm
      · by_cases e : y.fr.toNat = d
        · subst e
          rw [getD_set_same (by omega)]
          exact h.hit y hym
        · rw [getD_set_ne e]
          refine h.miss d hdn (fun z hzm e2 => ?_)
          obtain ⟨j, hj⟩ := List.mem_iff_getElem?.1 hzm
          by_cases hji : j = i
          · subst hji
            rw [hy] at hj
            cases hj
            exact e e2
          · refine hz z ?_ e2
            rw [List.mem_eraseIdx_iff_getElem?]
            exact ⟨j, hji, hj⟩
    | none =>
      dsimp only
      have hx := ho.d x (by simp)
      have hno := nobody_takes_n ho h9
      have hin : mvIn ⟨(n : Int), x.fr⟩ (mvEach o V).length = true := by rw [h.len]; exact mvIn_iff.2 ⟨by dsimp only; omega, by dsimp only; push_cast; omega, by dsimp only; omega, by dsimp only; push_cast; omega⟩
      have hE : mvEach (o ++ [⟨(n : Int), x.fr⟩]) V = (mvEach o V).set n ((mvEach o V).getD x.fr.toNat 0) := by
        rw [mvEach_app]
        have := mvStep_in hin
        simpa [mvEach] using this
      rw [hE]
      have hlen := h.len
      refine ⟨by rw [List.length_set]; exact h.len, fun z hz => ?_, fun d hdn hz => ?_⟩
      · obtain ⟨y, hy, rfl⟩ := List.mem_map.1 hz
        rw [mvFrom_fr]
        have h1 := h.hit y hy
        unfold mvFrom
        split
        · rename_i e
          show ((mvEach o V).set n _).getD ((n : Int).toNat) 0 = _
          rw [show ((n : Int).toNat) = n by omega, getD_set_same (by omega), ← e]
          exact h1
        · rw [getD_set_ne (fun e => hno y hy (by have := ho.s y hy; omega))]
          exact h1
      · rw [getD_set_ne (by omega)]
        refine h.miss d hdn (fun z hzm e2 => hz (mvFrom n x.fr z) (List.mem_map.2 ⟨z, hzm, rfl⟩) (by rw [mvFrom_fr]; exact e2))
theorem SeqInv.seqN {n : Nat} {T V : List Int} : ∀ k {s : List ArmD × List ArmD}, SeqInv n T (mvEach s.2 V) s.1 → LeftOk n s.1 → SeqInv n T (mvEach (seqN n k s).2 V) (seqN n k s).1
  | 0, _, h, _ => h
  | k + 1, _, h, ho => SeqInv.seqN k (h.step ho) ho.step
theorem seq_right {l : List ArmD} {vals : List Int} (e : Int) (h : movesOk l vals.length = true) : (mvEach (seqOf vals.length l) (vals ++ [e])).take vals.length = mvDo l vals := by
  have hle : seqLen (seqInit l) ≤ 2 * l.length := by
    have : (seqInit l).length ≤ l.length := List.length_filter_le _ _
    unfold seqLen
    omega
  have he := seqN_ends (2 * l.length) (s := (seqInit l, [])) (LeftOk.init h) hle
  have hi := (SeqInv.seqN (V := vals ++ [e]) (2 * l.length) (s := (seqInit l, [])) (SeqInv.init e h) (LeftOk.init h))
  rw [he] at hi
  have hl1 := mvDo_len l vals
  apply List.ext_getElem?
  intro d
  by_cases hd : d < vals.length
  · have h1 := hi.miss d hd (fun x hx => by cases hx)
    rw [List.getElem?_take_of_lt hd]
    have hlen : d < (mvEach (seqOf vals.length l) (vals ++ [e])).length := by rw [mvEach_len]; simp; omega
    have h2 : d < (mvDo l vals).length := by omega
    rw [List.getElem?_eq_getElem hlen, List.getElem?_eq_getElem h2]
    change (mvEach (seqOf vals.length l) (vals ++ [e])).getD d 0 = _ at h1
    simp only [List.getD_eq_getElem?_getD, List.getElem?_eq_getElem hlen, List.getElem?_eq_getElem h2, Option.getD_some] at h1
    rw [h1]
  · rw [List.getElem?_eq_none (by rw [List.length_take]; omega), List.getElem?_eq_none (by omega)]
end Go.Proofs.Ytijihgkhdknkeaa
