/- A line read piece by piece: mathematics. -/
import Derived.Test.YtjcocpdicogecaaGreatDoorTxPar
import Derived.Lib.SplitLaws
namespace Go.Proofs.YtjcocpdicogecaaGreatDoor
open Go.Lib
set_option linter.unusedVariables false

theorem index_ne {b c : UInt8} {l : List UInt8} (h : b ≠ c) : index (b :: l) [c] = if index l [c] == -1 then -1 else index l [c] + 1 := by
  rw [index, if_neg (by simp [List.isPrefixOf]; exact fun e => h e.symm)]
theorem splitK_spl (c : UInt8) : ∀ l : List UInt8, splitK [c] 0 (count l [c]) l = spl c l
  | [] => rfl
  | b :: r => by
    by_cases h : b = c
    · subst h
      rw [count_cons_eq, Nat.add_comm, splitK, spl, if_pos rfl]
      have hi : index (b :: r) [b] = 0 := by rw [index, if_pos (by simp [List.isPrefixOf])]
      rw [hi, if_neg (by decide)]
      simp only [List.length_singleton]
      rw [← splitK_spl b r]
      rfl
    · rw [count_cons_ne b c r h, spl, if_neg h, ← splitK_spl c r]
      cases hk : count r [c] with
      | zero => rfl
      | succ k =>
        have hi : ¬ (index r [c] == -1) = true := fun e => by
          have := count_miss (beq_iff_eq.1 e)
          omega
        have h0 := index_ge r [c]
        have h1 : 0 ≤ index r [c] := by
          have : index r [c] ≠ -1 := fun e => hi (beq_iff_eq.2 e)
          omega
        rw [splitK, splitK, index_ne h, if_neg hi, if_neg hi, if_neg (by rw [beq_iff_eq]; omega)]
        have e : (index r [c] + 1).toNat = (index r [c]).toNat + 1 := by omega
        rw [e]
        simp
theorem putF_snoc : ∀ (ks : List (Int × Nat)) (vs : List Int) (x : InsD) (q : Int × Nat) (v : Int), ks.length = vs.length → putF x (ks ++ [q]) (vs ++ [v]) = setF (putF x ks vs) q.2 v
  | [], [], x, q, v, _ => rfl
  | [], _ :: _, x, q, v, h => by cases h
  | _ :: _, [], x, q, v, h => by cases h
  | k :: ks, w :: vs, x, q, v, h => by
    show putF (setF x k.2 w) (ks ++ [q]) (vs ++ [v]) = _
    exact putF_snoc ks vs _ q v (by simpa using h)
theorem setF_op (x : InsD) (k : Nat) (v : Int) : (setF x k v).op = x.op := by unfold setF; (repeat' split) <;> rfl
theorem setF_n {x : InsD} {k : Nat} {v : Int} (h : InR x) (hv : -9223372036854775808 ≤ v ∧ v ≤ 9223372036854775807) : InR (setF x k v) := by
  unfold setF InR at *
  (repeat' split)
  · exact h
  · exact h
  · exact h
  · exact hv
/-- The step while a line's pieces are read: of k fields. -/
structure RS (line : List UInt8) (op : Int) (k : Nat) (s : InsD) : Prop where
  ope : s.op = op
  n : InR s
  is : ∀ y, IsLine line y → s = putF ⟨op, 0, 0, 0, 0⟩ ((kindsX op).take k) (((kindsX op).take k).map (fun q => getF y q.2))
theorem RS.start (line : List UInt8) (op : Int) : RS line op 0 ⟨op, 0, 0, 0, 0⟩ := ⟨rfl, ⟨by simp, by simp⟩, fun y _ => by simp [putF]⟩
/-- Of a line that is one of y, the op is y's. -/
theorem line_op {line : List UInt8} {op : Int} (ho : ((opOfL ((spl 32 line).headD []) : Nat) : Int) = op) {y : InsD} (h : IsLine line y) : y.op = op := by
  have := h.op
  rw [this.1] at ho
  omega
theorem RS.next {line p : List UInt8} {op v : Int} {k : Nat} {s : InsD} {q : Int × Nat} (h : RS line op k s) (ho : ((opOfL ((spl 32 line).headD []) : Nat) : Int) = op) (hq : (kindsX op)[k]? = some q) (hp : (spl 32 line)[k + 1]? = some p) (hv : atoiAll (trimPrefix p (letL q.1)) = .ok v) : RS line op (k + 1) (setF s q.2 v) := by
  refine ⟨by rw [setF_op]; exact h.ope, setF_n h.n (atoiAll_bounds hv), fun y hy => ?_⟩
  have hop := line_op ho hy
  have e : v = getF y q.2 := by
    obtain ⟨p', h1, h2⟩ := hy.num (j := k) (q := q) (by rw [hop]; exact hq)
    rw [hp] at h1
    cases h1
    rw [hv] at h2
    exact NumEnd.ok.inj h2
  rw [List.take_add_one, hq, List.map_append]
  show _ = putF _ ((kindsX op).take k ++ [q]) (((kindsX op).take k).map (fun q => getF y q.2) ++ [getF y q.2])
  rw [putF_snoc _ _ _ _ _ (by simp), ← h.is y hy, e]
theorem RS.bad {line p : List UInt8} {op : Int} {k : Nat} {q : Int × Nat} (ho : ((opOfL ((spl 32 line).headD []) : Nat) : Int) = op) (hq : (kindsX op)[k]? = some q) (hp : (spl 32 line)[k + 1]? = some p) (hv : ∀ v, atoiAll (trimPrefix p (letL q.1)) ≠ .ok v) : ∀ y, ¬ IsLine line y := by
  intro y hy
  obtain ⟨p', h1, h2⟩ := hy.num (j := k) (q := q) (by rw [line_op ho hy]; exact hq)
  rw [hp] at h1
  cases h1
  exact hv _ h2
theorem line_noop {line : List UInt8} {op : Int} (ho : ((opOfL ((spl 32 line).headD []) : Nat) : Int) = op) (h : op = 0) : ∀ y, ¬ IsLine line y := by
  intro y hy
  have h1 := line_op ho hy
  have h2 := hy.op
  omega
theorem line_nolen {line : List UInt8} {op : Int} (ho : ((opOfL ((spl 32 line).headD []) : Nat) : Int) = op) (h : (spl 32 line).length ≠ 1 + (kindsX op).length) : ∀ y, ¬ IsLine line y := by
  intro y hy
  have h1 := congrArg List.length hy.pieces
  rw [line_op ho hy, List.length_map, List.length_tail] at h1
  have h2 := List.length_pos_iff.2 (spl_ne 32 line)
  omega
theorem RS.all {line : List UInt8} {op : Int} {k : Nat} {s : InsD} (h : RS line op k s) (hk : k = (kindsX op).length) (ho : ((opOfL ((spl 32 line).headD []) : Nat) : Int) = op) {y : InsD} (hy : IsLine line y) : s = y := by
  rw [h.is y hy, hk, List.take_length]
  have hop := line_op ho hy
  rw [← hop]
  exact putF_is hy.1
theorem RS.yes {line : List UInt8} {op : Int} {k : Nat} {s : InsD} (h : RS line op k s) (h0 : op ≠ 0) (ho : ((opOfL ((spl 32 line).headD []) : Nat) : Int) = op) (ht : textX s = line) : IsLine line s := by
  refine (isLine_text h.n (fun e => h0 ?_)).2 ht
  subst e
  rw [← ho]
  rfl
theorem RS.no {line : List UInt8} {op : Int} {k : Nat} {s : InsD} (h : RS line op k s) (hk : k = (kindsX op).length) (ho : ((opOfL ((spl 32 line).headD []) : Nat) : Int) = op) (ht : textX s ≠ line) : ∀ y, ¬ IsLine line y := by
  intro y hy
  have e := h.all hk ho hy
  subst e
  exact ht ((isLine_text hy.2.1 hy.ne).1 hy)
end Go.Proofs.YtjcocpdicogecaaGreatDoor
