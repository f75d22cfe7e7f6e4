/- What is made at a place is in the way of what is needed behind it. -/
import Derived.Test.YtjfogpbhacadbaaLSetAK
import Derived.Test.YtjfogpbhacadbaaKIns
import Derived.Test.YtjfogpbhacadbaaKSeq
namespace Go.Proofs.Ytjfogpbhacadbaa
set_option linter.unusedVariables false

def HitBy (y : InsD) (l : List Int) (d v : Int) : Prop := insDefV y.op y.d = d ∧ 0 ≤ d ∧ v ∈ l ∧ v ≠ d ∧ ¬ (y.op = 25 ∧ v = y.a)
def Meets (y : InsD) (l : List Int) (a b : Int) : Prop := HitBy y l a b ∨ HitBy y l b a
theorem HitBy.ne {y : InsD} {l : List Int} {d v : Int} (h : HitBy y l d v) : d ≠ v := fun e => h.2.2.2.1 e.symm
theorem Meets.symm {y : InsD} {l : List Int} {a b : Int} (h : Meets y l a b) : Meets y l b a := Or.symm h
theorem Meets.ne {y : InsD} {l : List Int} {a b : Int} (h : Meets y l a b) : a ≠ b := h.elim HitBy.ne (fun k e => k.ne e.symm)
theorem Meets.mono {y : InsD} {l m : List Int} {a b : Int} (h : Meets y l a b) (hl : ∀ z ∈ l, z ∈ m) : Meets y m a b := h.imp (fun h => ⟨h.1, h.2.1, hl _ h.2.2.1, h.2.2.2⟩) (fun h => ⟨h.1, h.2.1, hl _ h.2.2.1, h.2.2.2⟩)
theorem Meets.none {y : InsD} {l : List Int} {a b : Int} (hd : insDefV y.op y.d < 0) : ¬ Meets y l a b := fun h => h.elim (fun h => by have := h.1; have := h.2.1; omega) (fun h => by have := h.1; have := h.2.1; omega)
theorem meets_lt {y : InsD} {l : List Int} {v : Int} (a c : Int) : Meets y (l.filter (fun z => decide (z < v + 1))) a c ↔ Meets y (l.filter (fun z => decide (z < v))) a c ∨ (HitBy y l a c ∧ c = v) ∨ (HitBy y l c a ∧ a = v) := by
  have key : ∀ a c : Int, HitBy y (l.filter (fun z => decide (z < v + 1))) a c ↔ HitBy y (l.filter (fun z => decide (z < v))) a c ∨ (HitBy y l a c ∧ c = v) := fun a c => by
    unfold HitBy
    simp only [List.mem_filter, decide_eq_true_eq]
    constructor
    · rintro ⟨h1, h2, ⟨h3, h3'⟩, h4⟩
      by_cases e : c = v
      · exact .inr ⟨⟨h1, h2, h3, h4⟩, e⟩
      · exact .inl ⟨h1, h2, ⟨h3, by omega⟩, h4⟩
    · rintro (⟨h1, h2, ⟨h3, h3'⟩, h4⟩ | ⟨⟨h1, h2, h3, h4⟩, e⟩)
      · exact ⟨h1, h2, ⟨h3, by omega⟩, h4⟩
      · exact ⟨h1, h2, ⟨h3, by omega⟩, h4⟩
  unfold Meets
  rw [key a c, key c a]
  constructor
  · rintro ((h | h) | (h | h))
    · exact .inl (.inl h)
    · exact .inr (.inl h)
    · exact .inl (.inr h)
    · exact .inr (.inr h)
  · rintro ((h | h) | (h | h))
    · exact .inl (.inl h)
    · exact .inr (.inl h)
    · exact .inl (.inr h)
    · exact .inr (.inr h)
theorem meets_skip {y : InsD} {l : List Int} {v : Int} (h : ¬ HitBy y l (insDefV y.op y.d) v) (a c : Int) : Meets y (l.filter (fun z => decide (z < v + 1))) a c ↔ Meets y (l.filter (fun z => decide (z < v))) a c := by
  rw [meets_lt]
  constructor
  · rintro (h1 | ⟨h1, rfl⟩ | ⟨h1, rfl⟩)
    · exact h1
    · exact absurd (by rw [h1.1]; exact h1) h
    · exact absurd (by rw [h1.1]; exact h1) h
  · exact .inl
theorem meets_hit {y : InsD} {l : List Int} {d v : Int} (h : HitBy y l d v) (a c : Int) : Meets y (l.filter (fun z => decide (z < v + 1))) a c ↔ Meets y (l.filter (fun z => decide (z < v))) a c ∨ (a = d ∧ c = v) ∨ (a = v ∧ c = d) := by
  rw [meets_lt]
  constructor
  · rintro (h1 | ⟨h1, h2⟩ | ⟨h1, h2⟩)
    · exact .inl h1
    · exact .inr (.inl ⟨h1.1.symm.trans h.1, h2⟩)
    · exact .inr (.inr ⟨h2, h1.1.symm.trans h.1⟩)
  · rintro (h1 | ⟨rfl, rfl⟩ | ⟨rfl, rfl⟩)
    · exact .inl h1
    · exact .inr (.inl ⟨h, rfl⟩)
    · exact .inr (.inr ⟨h, rfl⟩)
theorem meets_one {y : InsD} {d v : Int} (h : HitBy y [v] d v) (a c : Int) : Meets y [v] a c ↔ (a = d ∧ c = v) ∨ (a = v ∧ c = d) := by
  constructor
  · rintro (h1 | h1)
    · exact .inl ⟨h1.1.symm.trans h.1, by simpa using h1.2.2.1⟩
    · exact .inr ⟨by simpa using h1.2.2.1, h1.1.symm.trans h.1⟩
  · rintro (⟨rfl, rfl⟩ | ⟨rfl, rfl⟩)
    · exact .inl h
    · exact .inr h
theorem meets_not {y : InsD} {v : Int} (h : ¬ HitBy y [v] (insDefV y.op y.d) v) (a c : Int) : ¬ Meets y [v] a c := by
  rintro (h1 | h1)
  · have e : c = v := by simpa using h1.2.2.1
    subst e
    exact h (by rw [h1.1]; exact h1)
  · have e : a = v := by simpa using h1.2.2.1
    subst e
    exact h (by rw [h1.1]; exact h1)
theorem meets_take {y : InsD} {l : List Int} {k : Nat} {v : Int} (hk : l[k]? = some v) (a c : Int) : Meets y (l.take (k + 1)) a c ↔ Meets y (l.take k) a c ∨ Meets y [v] a c := by
  have e : l.take (k + 1) = l.take k ++ [v] := by rw [List.take_add_one, hk]; rfl
  rw [e]
  unfold Meets HitBy
  simp only [List.mem_append]
  constructor
  · rintro (⟨h1, h2, h3 | h3, h4⟩ | ⟨h1, h2, h3 | h3, h4⟩)
    · exact .inl (.inl ⟨h1, h2, h3, h4⟩)
    · exact .inr (.inl ⟨h1, h2, h3, h4⟩)
    · exact .inl (.inr ⟨h1, h2, h3, h4⟩)
    · exact .inr (.inr ⟨h1, h2, h3, h4⟩)
  · rintro ((⟨h1, h2, h3, h4⟩ | ⟨h1, h2, h3, h4⟩) | (⟨h1, h2, h3, h4⟩ | ⟨h1, h2, h3, h4⟩))
    · exact .inl ⟨h1, h2, .inl h3, h4⟩
    · exact .inr ⟨h1, h2, .inl h3, h4⟩
    · exact .inl ⟨h1, h2, .inr h3, h4⟩
    · exact .inr ⟨h1, h2, .inr h3, h4⟩
theorem meets_nil {y : InsD} (a c : Int) : ¬ Meets y [] a c := fun h => h.elim (fun h => by cases h.2.2.1) (fun h => by cases h.2.2.1)
end Go.Proofs.Ytjfogpbhacadbaa
