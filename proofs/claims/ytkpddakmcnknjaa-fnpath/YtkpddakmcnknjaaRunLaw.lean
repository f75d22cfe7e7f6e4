/- What follows of a run, as mathematics: with more fuel the same is told, with less the beginning; noughts behind what is read turn nothing; the way goes from block to block that follows. -/
import Derived.Test.YtkpddakmcnknjaaRunDef
import Derived.Test.YtkpddakmcnknjaaGraphDef
namespace Go.Proofs.Ytkpddakmcnknjaa
set_option linter.unusedVariables false

/-! ### Fuel -/

def RunS.more (s : RunS) (m : Nat) : RunS := { s with fuel := s.fuel + m }
theorem insDo_more (W : Int → Int → Int → Int) (x : InsD) (s : RunS) (m : Nat) : insDo W x (s.more m) = ((insDo W x s).1, (insDo W x s).2.more m) := by
  unfold insDo
  simp only [RunS.more, RunS.val, RunS.setV]
  by_cases hc : cellOk (s.vals x.a.toNat)
  all_goals
    simp only [hc, if_true, if_false]
    repeat' split
    all_goals first | rfl | contradiction
theorem insDo_how (W : Int → Int → Int → Int) (x : InsD) (s : RunS) : (insDo W x s).1 = 0 ∨ (insDo W x s).1 = 2 := by
  unfold insDo
  repeat' split
  all_goals first | exact .inl rfl | exact .inr rfl
theorem insDo_told (W : Int → Int → Int → Int) (x : InsD) (s : RunS) : s.told <+: (insDo W x s).2.told := by
  unfold insDo
  repeat' split
  all_goals first | exact List.prefix_refl _ | exact List.prefix_append _ _
theorem placesDo_how (W : Int → Int → Int → Int) (xs : List InsD) (s : RunS) : (placesDo W xs s).1 = 0 ∨ (placesDo W xs s).1 = 1 ∨ (placesDo W xs s).1 = 2 := by
  induction xs generalizing s with
  | nil => exact .inl rfl
  | cons x xs ih =>
    rw [placesDo_cons]
    split
    · exact .inr (.inl rfl)
    · split
      · exact ih _
      · rcases insDo_how W x { s with fuel := s.fuel - 1 } with h | h
        · exact .inl h
        · exact .inr (.inr h)
theorem placesDo_told (W : Int → Int → Int → Int) (xs : List InsD) (s : RunS) : s.told <+: (placesDo W xs s).2.told := by
  induction xs generalizing s with
  | nil => exact List.prefix_refl _
  | cons x xs ih =>
    rw [placesDo_cons]
    have h0 := insDo_told W x { s with fuel := s.fuel - 1 }
    split
    · exact List.prefix_refl _
    · split
      · exact h0.trans (ih _)
      · exact h0
theorem more_less {s : RunS} (m : Nat) (h : ¬ s.fuel = 0) : { s.more m with fuel := (s.more m).fuel - 1 } = RunS.more { s with fuel := s.fuel - 1 } m := by
  simp only [RunS.more]
  congr 1
  omega
theorem placesDo_more (W : Int → Int → Int → Int) (m : Nat) (xs : List InsD) (s : RunS) :
    ((placesDo W xs s).1 ≠ 1 → placesDo W xs (s.more m) = ((placesDo W xs s).1, (placesDo W xs s).2.more m)) ∧ ((placesDo W xs s).1 = 1 → (placesDo W xs s).2.told <+: (placesDo W xs (s.more m)).2.told) := by
  induction xs generalizing s with
  | nil => exact ⟨fun _ => rfl, fun h => absurd h (by simp [placesDo])⟩
  | cons x xs ih =>
    by_cases h : s.fuel = 0
    · have e : placesDo W (x :: xs) s = (1, s) := by rw [placesDo_cons, if_pos h]
      rw [e]
      refine ⟨fun hh => absurd rfl hh, fun _ => ?_⟩
      exact placesDo_told W (x :: xs) (s.more m)
    · have hm : ¬ (s.more m).fuel = 0 := by simp only [RunS.more]; omega
      rw [placesDo_cons, placesDo_cons, if_neg h, if_neg hm, more_less m h, insDo_more]
      dsimp only
      by_cases h0 : (insDo W x { s with fuel := s.fuel - 1 }).1 = 0
      · rw [if_pos h0, if_pos h0]
        exact ih _
      · rw [if_neg h0, if_neg h0]
        refine ⟨fun _ => rfl, fun h1 => ?_⟩
        rcases insDo_how W x { s with fuel := s.fuel - 1 } with h | h <;> omega

/-- What the block b does from s on. -/
def blockDo (W : Int → Int → Int → Int) (b : BlockD) (at_ : Nat) (fr : Int) (s : RunS) : Int × RunS := placesDo W b.list (enterDo b at_ fr s)
theorem enterDo_more (b : BlockD) (at_ : Nat) (fr : Int) (s : RunS) (m : Nat) : enterDo b at_ fr (s.more m) = (enterDo b at_ fr s).more m := rfl
theorem tellN_succ (W : Int → Int → Int → Int) (F : FnD) (k at_ : Nat) (fr : Int) (s : RunS) {b : BlockD} (hb : F.blocks[at_]? = some b) : tellN W F (k + 1) at_ fr s =
    if (blockDo W b at_ fr s).1 ≠ 0 then ((blockDo W b at_ fr s).1, 0, (blockDo W b at_ fr s).2)
      else if (blockDo W b at_ fr s).2.fuel = 0 then (1, 0, (blockDo W b at_ fr s).2)
      else if b.term.k = 3 then (0, (blockDo W b at_ fr s).2.val b.term.a, { (blockDo W b at_ fr s).2 with fuel := (blockDo W b at_ fr s).2.fuel - 1 })
      else tellN W F k (nextDo b.term (blockDo W b at_ fr s).2).toNat at_ { (blockDo W b at_ fr s).2 with fuel := (blockDo W b at_ fr s).2.fuel - 1 } := by
  conv => lhs; unfold tellN
  rw [hb]
  rfl
theorem tellN_none (W : Int → Int → Int → Int) (F : FnD) (k at_ : Nat) (fr : Int) (s : RunS) (hb : F.blocks[at_]? = none) : tellN W F k at_ fr s = (1, 0, s) := by
  cases k with
  | zero => rfl
  | succ k => unfold tellN; rw [hb]
theorem tellN_told (W : Int → Int → Int → Int) (F : FnD) (k : Nat) : ∀ (at_ : Nat) (fr : Int) (s : RunS), s.told <+: (tellN W F k at_ fr s).2.2.told := by
  induction k with
  | zero => intro at_ fr s; exact List.prefix_refl _
  | succ k ih =>
    intro at_ fr s
    cases hb : F.blocks[at_]? with
    | none => rw [tellN_none _ _ _ _ _ _ hb]; exact List.prefix_refl _
    | some b =>
      rw [tellN_succ _ _ _ _ _ _ hb]
      have h0 : s.told <+: (blockDo W b at_ fr s).2.told := placesDo_told W b.list (enterDo b at_ fr s)
      repeat' split
      · exact h0
      · exact h0
      · exact h0
      · exact h0.trans (ih _ _ { (blockDo W b at_ fr s).2 with fuel := (blockDo W b at_ fr s).2.fuel - 1 })
theorem tellN_how (W : Int → Int → Int → Int) (F : FnD) (k : Nat) : ∀ (at_ : Nat) (fr : Int) (s : RunS), (tellN W F k at_ fr s).1 = 0 ∨ (tellN W F k at_ fr s).1 = 1 ∨ (tellN W F k at_ fr s).1 = 2 := by
  induction k with
  | zero => intro at_ fr s; exact .inr (.inl rfl)
  | succ k ih =>
    intro at_ fr s
    cases hb : F.blocks[at_]? with
    | none => rw [tellN_none _ _ _ _ _ _ hb]; exact .inr (.inl rfl)
    | some b =>
      rw [tellN_succ _ _ _ _ _ _ hb]
      repeat' split
      · exact placesDo_how _ _ _
      · exact .inr (.inl rfl)
      · exact .inl rfl
      · exact ih _ _ _
theorem blockDo_fuel (W : Int → Int → Int → Int) (b : BlockD) (at_ : Nat) (fr : Int) (s : RunS) : (blockDo W b at_ fr s).2.fuel ≤ s.fuel := placesDo_fuel W b.list (enterDo b at_ fr s)
theorem tellN_more (W : Int → Int → Int → Int) (F : FnD) (m : Nat) (k : Nat) : ∀ (k2 at_ : Nat) (fr : Int) (s : RunS), s.fuel < k → s.fuel + m < k2 →
    ((tellN W F k at_ fr s).1 ≠ 1 → (tellN W F k2 at_ fr (s.more m)).1 = (tellN W F k at_ fr s).1 ∧ (tellN W F k2 at_ fr (s.more m)).2.1 = (tellN W F k at_ fr s).2.1 ∧ (tellN W F k2 at_ fr (s.more m)).2.2.told = (tellN W F k at_ fr s).2.2.told) ∧
    ((tellN W F k at_ fr s).1 = 1 → (tellN W F k at_ fr s).2.2.told <+: (tellN W F k2 at_ fr (s.more m)).2.2.told) := by
  induction k with
  | zero => intro k2 at_ fr s h; omega
  | succ k ih =>
    intro k2 at_ fr s h h2
    obtain ⟨k2, rfl⟩ : ∃ j, k2 = j + 1 := ⟨k2 - 1, by omega⟩
    cases hb : F.blocks[at_]? with
    | none => rw [tellN_none _ _ _ _ _ _ hb, tellN_none _ _ _ _ _ _ hb]; exact ⟨fun h => absurd rfl h, fun _ => List.prefix_refl _⟩
    | some b =>
      have hm : ((blockDo W b at_ fr s).1 ≠ 1 → blockDo W b at_ fr (s.more m) = ((blockDo W b at_ fr s).1, (blockDo W b at_ fr s).2.more m)) ∧ ((blockDo W b at_ fr s).1 = 1 → (blockDo W b at_ fr s).2.told <+: (blockDo W b at_ fr (s.more m)).2.told) :=
        placesDo_more W m b.list (enterDo b at_ fr s)
      have hf := blockDo_fuel W b at_ fr s
      rw [tellN_succ _ _ _ _ _ s hb]
      by_cases h1 : (blockDo W b at_ fr s).1 = 1
      · rw [if_pos (by rw [h1]; decide)]
        refine ⟨fun hh => absurd h1 hh, fun _ => ?_⟩
        refine (hm.2 h1).trans ?_
        rw [tellN_succ _ _ _ _ _ _ hb]
        repeat' split
        · exact List.prefix_refl _
        · exact List.prefix_refl _
        · exact List.prefix_refl _
        · exact tellN_told W F k2 _ _ { (blockDo W b at_ fr (s.more m)).2 with fuel := (blockDo W b at_ fr (s.more m)).2.fuel - 1 }
      · have e := hm.1 h1
        by_cases h0 : (blockDo W b at_ fr s).1 = 0
        · rw [if_neg (by rw [h0]; decide)]
          by_cases hz : (blockDo W b at_ fr s).2.fuel = 0
          · rw [if_pos hz]
            refine ⟨fun hh => absurd rfl hh, fun _ => ?_⟩
            have h3 : (blockDo W b at_ fr s).2.told = (blockDo W b at_ fr (s.more m)).2.told := by rw [e]; rfl
            show (blockDo W b at_ fr s).2.told <+: _
            rw [h3, tellN_succ _ _ _ _ _ _ hb]
            repeat' split
            · exact List.prefix_refl _
            · exact List.prefix_refl _
            · exact List.prefix_refl _
            · exact tellN_told W F k2 _ _ { (blockDo W b at_ fr (s.more m)).2 with fuel := (blockDo W b at_ fr (s.more m)).2.fuel - 1 }
          · rw [if_neg hz, tellN_succ _ _ _ _ _ _ hb, e]
            dsimp only
            have h00 : ¬ (blockDo W b at_ fr s).1 ≠ 0 := by rw [h0]; decide
            have hz2 : ¬ ((blockDo W b at_ fr s).2.more m).fuel = 0 := by simp only [RunS.more]; omega
            rw [if_neg h00, if_neg hz2, more_less m hz]
            by_cases h3 : b.term.k = 3
            · rw [if_pos h3, if_pos h3]
              exact ⟨fun _ => ⟨rfl, rfl, rfl⟩, fun hh => absurd hh (by simp)⟩
            · rw [if_neg h3, if_neg h3]
              have h4 : nextDo b.term ((blockDo W b at_ fr s).2.more m) = nextDo b.term (blockDo W b at_ fr s).2 := rfl
              rw [h4]
              exact ih k2 _ _ _ (by show _ - 1 < k; omega) (by show _ - 1 + m < k2; omega)
        · rw [if_pos h0, tellN_succ _ _ _ _ _ _ hb, e, if_pos h0]
          exact ⟨fun _ => ⟨rfl, rfl, rfl⟩, fun hh => absurd hh h1⟩
theorem startDo_fuel (reads : List Int) {fuel : Int} (h : 0 ≤ fuel) : (startDo reads fuel).fuel ≤ 5000 := by simp only [startDo]; omega
theorem startDo_more (reads : List Int) {fuel fuel2 : Int} (h : 0 ≤ fuel) (h2 : fuel ≤ fuel2) : startDo reads fuel2 = (startDo reads fuel).more ((min fuel2 5000).toNat - (min fuel 5000).toNat) := by
  simp only [startDo, RunS.more]
  congr 1
  omega
theorem runDo_more (W : Int → Int → Int → Int) (F : FnD) (reads : List Int) {fuel fuel2 : Int} (h : 0 ≤ fuel) (h2 : fuel ≤ fuel2) :
    ((runDo W F reads fuel).1 ≠ 1 → (runDo W F reads fuel2).1 = (runDo W F reads fuel).1 ∧ (runDo W F reads fuel2).2.1 = (runDo W F reads fuel).2.1 ∧ (runDo W F reads fuel2).2.2.told = (runDo W F reads fuel).2.2.told) ∧
    ((runDo W F reads fuel).1 = 1 → (runDo W F reads fuel).2.2.told <+: (runDo W F reads fuel2).2.2.told) := by
  unfold runDo
  rw [startDo_more reads h h2]
  have h5 := startDo_fuel reads h
  have h6 : (startDo reads fuel).fuel + ((min fuel2 5000).toNat - (min fuel 5000).toNat) ≤ 5000 := by simp only [startDo]; omega
  exact tellN_more W F _ 5001 5001 0 (-1) _ (by omega) (by omega)
theorem runDo_begin (W : Int → Int → Int → Int) (F : FnD) (reads : List Int) {fuel fuel2 : Int} (h : 0 ≤ fuel) (h2 : fuel ≤ fuel2) : (runDo W F reads fuel).2.2.told <+: (runDo W F reads fuel2).2.2.told := by
  have hm := runDo_more W F reads h h2
  by_cases h1 : (runDo W F reads fuel).1 = 1
  · exact hm.2 h1
  · rw [(hm.1 h1).2.2]
    exact List.prefix_refl _
theorem runDo_how (W : Int → Int → Int → Int) (F : FnD) (reads : List Int) (fuel : Int) : (runDo W F reads fuel).1 = 0 ∨ (runDo W F reads fuel).1 = 1 ∨ (runDo W F reads fuel).1 = 2 := tellN_how W F _ _ _ _

/-! ### Noughts behind what is read -/

def RunS.noughts (s : RunS) (j : Nat) : RunS := { s with reads := s.reads ++ List.replicate j 0 }
theorem insDo_noughts (W : Int → Int → Int → Int) (x : InsD) (s : RunS) (j : Nat) : ∃ i, insDo W x (s.noughts j) = ((insDo W x s).1, (insDo W x s).2.noughts i) := by
  by_cases h24 : x.op = 24
  · have e : ∀ s : RunS, insDo W x s = (0, { s.setV x.d (s.reads.headD 0) with reads := s.reads.tail }) := fun s => by simp [insDo, h24]
    rw [e, e]
    cases hr : s.reads with
    | nil =>
      cases j with
      | zero => exact ⟨0, by simp [RunS.noughts, RunS.setV, hr]⟩
      | succ j => exact ⟨j, by simp [RunS.noughts, RunS.setV, hr, List.replicate_succ]⟩
    | cons a l => exact ⟨j, by simp [RunS.noughts, RunS.setV, hr]⟩
  · refine ⟨j, ?_⟩
    unfold insDo
    simp only [RunS.noughts, RunS.val, RunS.setV, if_neg h24]
    by_cases hc : cellOk (s.vals x.a.toNat)
    all_goals
      simp only [hc, if_true, if_false]
      repeat' split
      all_goals first | rfl | contradiction
theorem placesDo_noughts (W : Int → Int → Int → Int) (xs : List InsD) : ∀ (s : RunS) (j : Nat), ∃ i, placesDo W xs (s.noughts j) = ((placesDo W xs s).1, (placesDo W xs s).2.noughts i) := by
  induction xs with
  | nil => intro s j; exact ⟨j, rfl⟩
  | cons x xs ih =>
    intro s j
    rw [placesDo_cons, placesDo_cons]
    have ef : (s.noughts j).fuel = s.fuel := rfl
    rw [ef]
    by_cases h : s.fuel = 0
    · rw [if_pos h, if_pos h]; exact ⟨j, rfl⟩
    · rw [if_neg h, if_neg h]
      obtain ⟨i, hi⟩ := insDo_noughts W x { s with fuel := s.fuel - 1 } j
      have e2 : { s.noughts j with fuel := s.fuel - 1 } = RunS.noughts { s with fuel := s.fuel - 1 } j := rfl
      rw [e2, hi]
      dsimp only
      by_cases h0 : (insDo W x { s with fuel := s.fuel - 1 }).1 = 0
      · rw [if_pos h0, if_pos h0]
        exact ih _ i
      · rw [if_neg h0, if_neg h0]
        exact ⟨i, rfl⟩
theorem tellN_noughts (W : Int → Int → Int → Int) (F : FnD) (k : Nat) : ∀ (at_ : Nat) (fr : Int) (s : RunS) (j : Nat), ∃ i, tellN W F k at_ fr (s.noughts j) = ((tellN W F k at_ fr s).1, (tellN W F k at_ fr s).2.1, (tellN W F k at_ fr s).2.2.noughts i) := by
  induction k with
  | zero => intro at_ fr s j; exact ⟨j, rfl⟩
  | succ k ih =>
    intro at_ fr s j
    cases hb : F.blocks[at_]? with
    | none => rw [tellN_none _ _ _ _ _ _ hb, tellN_none _ _ _ _ _ _ hb]; exact ⟨j, rfl⟩
    | some b =>
      rw [tellN_succ _ _ _ _ _ _ hb, tellN_succ _ _ _ _ _ _ hb]
      obtain ⟨i, hi⟩ : ∃ i, blockDo W b at_ fr (s.noughts j) = ((blockDo W b at_ fr s).1, (blockDo W b at_ fr s).2.noughts i) := placesDo_noughts W b.list (enterDo b at_ fr s) j
      rw [hi]
      dsimp only
      have ef : ((blockDo W b at_ fr s).2.noughts i).fuel = (blockDo W b at_ fr s).2.fuel := rfl
      rw [ef]
      by_cases h0 : (blockDo W b at_ fr s).1 ≠ 0
      · rw [if_pos h0, if_pos h0]; exact ⟨i, rfl⟩
      · rw [if_neg h0, if_neg h0]
        by_cases hz : (blockDo W b at_ fr s).2.fuel = 0
        · rw [if_pos hz, if_pos hz]; exact ⟨i, rfl⟩
        · rw [if_neg hz, if_neg hz]
          by_cases h3 : b.term.k = 3
          · rw [if_pos h3, if_pos h3]; exact ⟨i, rfl⟩
          · rw [if_neg h3, if_neg h3]
            exact ih _ _ { (blockDo W b at_ fr s).2 with fuel := (blockDo W b at_ fr s).2.fuel - 1 } i
theorem runDo_noughts (W : Int → Int → Int → Int) (F : FnD) (reads : List Int) (fuel : Int) (j : Nat) : (runDo W F (reads ++ List.replicate j 0) fuel).1 = (runDo W F reads fuel).1 ∧ (runDo W F (reads ++ List.replicate j 0) fuel).2.1 = (runDo W F reads fuel).2.1 ∧ (runDo W F (reads ++ List.replicate j 0) fuel).2.2.told = (runDo W F reads fuel).2.2.told := by
  obtain ⟨i, hi⟩ := tellN_noughts W F 5001 0 (-1) (startDo reads fuel) j
  have e : runDo W F (reads ++ List.replicate j 0) fuel = _ := hi
  rw [e]
  exact ⟨rfl, rfl, rfl⟩

/-! ### The way -/

/-- A way from block 0 on, to blocks that follow each other. -/
structure WayOk (F : FnD) (p : List Int) : Prop where
  first : 0 < p.length → p.getD 0 0 = 0
  inn : ∀ i, i < p.length → 0 ≤ p.getD i 0 ∧ p.getD i 0 < F.blocks.length
  next : ∀ i, i + 1 < p.length → p.getD (i + 1) 0 ∈ succsN F (p.getD i 0).toNat
theorem WayOk.snoc {F : FnD} {p : List Int} {a : Nat} {x : Int} (h : WayOk F (p ++ [(a : Int)])) (hx : x ∈ succsN F a) (hS : 0 ≤ x ∧ x < F.blocks.length) : WayOk F ((p ++ [(a : Int)]) ++ [x]) := by
  have hl : (p ++ [(a : Int)]).length = p.length + 1 := by simp
  obtain ⟨q, hq⟩ : ∃ q, q = p ++ [(a : Int)] := ⟨_, rfl⟩
  have hlast : q.getD p.length 0 = (a : Int) := by rw [hq]; simp [List.getD]
  rw [← hq] at h hl ⊢
  have g : ∀ i, i < q.length → (q ++ [x]).getD i 0 = q.getD i 0 := fun i hi => by rw [List.getD_eq_getElem?_getD, List.getElem?_append_left hi, ← List.getD_eq_getElem?_getD]
  have gl : (q ++ [x]).getD q.length 0 = x := by simp [List.getD]
  refine ⟨fun _ => ?_, fun i hi => ?_, fun i hi => ?_⟩
  · rw [g 0 (by omega)]; exact h.first (by omega)
  · rw [List.length_append, List.length_singleton] at hi
    by_cases e : i < q.length
    · rw [g i e]; exact h.inn i e
    · rw [show i = q.length by omega, gl]; exact hS
  · rw [List.length_append, List.length_singleton] at hi
    by_cases e : i + 1 < q.length
    · rw [g i (by omega), g (i + 1) e]; exact h.next i e
    · have e2 : i = p.length := by omega
      subst e2
      rw [g _ (by omega), ← hl, gl, hlast]
      simpa using hx
theorem placesDo_path (W : Int → Int → Int → Int) (xs : List InsD) (s : RunS) : (placesDo W xs s).2.path = s.path := by
  induction xs generalizing s with
  | nil => rfl
  | cons x xs ih =>
    have h0 : (insDo W x { s with fuel := s.fuel - 1 }).2.path = s.path := by
      unfold insDo
      repeat' split
      all_goals rfl
    rw [placesDo_cons]
    split
    · rfl
    · split
      · rw [ih, h0]
      · exact h0
theorem next_follows {F : FnD} (hS : FnShape F) {a : Nat} {b : BlockD} (hb : F.blocks[a]? = some b) (h3 : ¬ b.term.k = 3) (s : RunS) : nextDo b.term s ∈ succsN F a := by
  have ht := hS.term hb
  rw [succsN_at hb]
  unfold succsT succsV nextDo
  have hk : b.term.k = 1 ∨ b.term.k = 2 := by
    apply Classical.byContradiction
    intro hn
    have h1 : ¬ b.term.k = 1 := fun h => hn (.inl h)
    have h2 : ¬ b.term.k = 2 := fun h => hn (.inr h)
    simp [termOkV, h1, h2, h3] at ht
  rcases hk with hk | hk
  · simp [hk]
  · by_cases he : b.term.e = b.term.t <;> by_cases hv : s.val b.term.a = 0 <;> simp [hk, he, hv]
theorem tellN_way (W : Int → Int → Int → Int) {F : FnD} (hS : FnShape F) (k : Nat) : ∀ (at_ : Nat) (fr : Int) (s : RunS), s.fuel < k → WayOk F (s.path ++ [(at_ : Int)]) →
    WayOk F (tellN W F k at_ fr s).2.2.path ∧ 0 < (tellN W F k at_ fr s).2.2.path.length ∧ ((tellN W F k at_ fr s).1 = 0 → ∃ b, F.blocks[((tellN W F k at_ fr s).2.2.path.getD ((tellN W F k at_ fr s).2.2.path.length - 1) 0).toNat]? = some b ∧ b.term.k = 3) := by
  induction k with
  | zero => intro at_ fr s h; omega
  | succ k ih =>
    intro at_ fr s h hw
    have hin : at_ < F.blocks.length := by
      have := (hw.inn s.path.length (by simp)).2
      simp [List.getD] at this
      omega
    obtain ⟨b, hb⟩ : ∃ b, F.blocks[at_]? = some b := ⟨F.blocks[at_], List.getElem?_eq_getElem hin⟩
    have hp : (blockDo W b at_ fr s).2.path = s.path ++ [(at_ : Int)] := placesDo_path W b.list (enterDo b at_ fr s)
    have hf := blockDo_fuel W b at_ fr s
    rw [tellN_succ _ _ _ _ _ _ hb]
    by_cases h0 : (blockDo W b at_ fr s).1 ≠ 0
    · rw [if_pos h0]
      dsimp only
      rw [hp]
      exact ⟨hw, by simp, fun hh => absurd hh h0⟩
    · rw [if_neg h0]
      by_cases hz : (blockDo W b at_ fr s).2.fuel = 0
      · rw [if_pos hz]
        dsimp only
        rw [hp]
        exact ⟨hw, by simp, fun hh => absurd hh (by decide)⟩
      · rw [if_neg hz]
        by_cases h3 : b.term.k = 3
        · rw [if_pos h3]
          dsimp only
          rw [hp]
          refine ⟨hw, by simp, fun _ => ⟨b, ?_, h3⟩⟩
          simpa [List.getD] using hb
        · rw [if_neg h3]
          have hn := next_follows hS hb h3 (blockDo W b at_ fr s).2
          have hi := succs_in hS _ _ hn
          refine ih _ _ _ (by show _ - 1 < k; omega) ?_
          show WayOk F ((blockDo W b at_ fr s).2.path ++ [(((nextDo b.term (blockDo W b at_ fr s).2).toNat : Nat) : Int)])
          rw [hp, Int.toNat_of_nonneg hi.1]
          exact hw.snoc hn hi
theorem runDo_way (W : Int → Int → Int → Int) {F : FnD} (hS : FnShape F) (reads : List Int) {fuel : Int} (h : 0 ≤ fuel) :
    WayOk F (runDo W F reads fuel).2.2.path ∧ 0 < (runDo W F reads fuel).2.2.path.length ∧ ((runDo W F reads fuel).1 = 0 → ∃ b, F.blocks[((runDo W F reads fuel).2.2.path.getD ((runDo W F reads fuel).2.2.path.length - 1) 0).toNat]? = some b ∧ b.term.k = 3) := by
  refine tellN_way W hS 5001 0 (-1) _ (by have := startDo_fuel reads h; omega) ⟨fun _ => rfl, fun i hi => ?_, fun i hi => ?_⟩
  · have : i = 0 := by simp [startDo] at hi; omega
    subst this
    have := hS.1
    simp [startDo, List.getD]
    omega
  · simp [startDo] at hi
end Go.Proofs.Ytkpddakmcnknjaa
