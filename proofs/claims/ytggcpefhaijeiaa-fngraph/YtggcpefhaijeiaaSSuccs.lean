/- The model's Succs: the blocks that follow, for every program and every number. -/
import Derived.Test.YtggcpefhaijeiaaSuccs
import Derived.Test.YtggcpefhaijeiaaShape8
namespace Go.Proofs.Ytggcpefhaijeiaa
open Go.ChangeShapes Go.WideShapes Go.ChangeAt Go.RowKit Go.Shelf
set_option linter.unusedVariables false

theorem ownInts_one {w : World} {x : Int} {g lo : Nat} (hg : w.heap.size = g) (hl : lo ≤ g) : OwnInts (w.alloc (.cells #[.int .i64 x] 3)) lo (.slice (some ⟨g, 0, none⟩) 1 1) [x] := by
  subst hg
  exact ⟨rfl, .inr ⟨w.heap.size, 1, #[.int .i64 x], rfl, hl, World.alloc_heap_new w _, Nat.le_refl _, by decide, rfl, rfl⟩⟩
theorem ownInts_two {w : World} {x y : Int} {g lo : Nat} (hg : w.heap.size = g) (hl : lo ≤ g) : OwnInts (w.alloc (.cells #[.int .i64 x, .int .i64 y] 3)) lo (.slice (some ⟨g, 0, none⟩) 2 2) [x, y] := by
  subst hg
  exact ⟨rfl, .inr ⟨w.heap.size, 2, #[.int .i64 x, .int .i64 y], rfl, hl, World.alloc_heap_new w _, Nat.le_refl _, by decide, rfl, rfl⟩⟩
theorem ownInts_nil {w : World} {g lo : Nat} (hg : w.heap.size = g) (hl : lo ≤ g) : OwnInts (w.alloc (.cells #[] 3)) lo (.slice (some ⟨g, 0, none⟩) 0 0) [] := by
  subst hg
  exact (ownInts_new w).low hl

/-- A program is written out. -/
theorem FnAt.out {w : World} {v : Value} {F : FnD} (h : FnAt w v F) {n : Nat} {vals : Int} (hn : F.blocks.length = n) (hv : F.values = vals) : ∃ ba bcap, v = .agg #[.slice ba n bcap, .int .i64 vals] := by
  obtain ⟨bv, rfl, a, cap, rfl, _⟩ := h
  exact ⟨a, cap, by rw [hn, hv]⟩

set_option maxHeartbeats 1000000 in
theorem l3Succs_any (v : Value) (F : FnD) (bn : Nat) (w : World) (hF : FnAt w v F) (hb : bn < F.blocks.length) :
    Calls Try.prog 37 #[v, .int .i64 (bn : Int)] w fun e w' => GivesOwn w (succsN F bn) e w' := by
  obtain ⟨n, HN⟩ : ∃ n, Hid (F.blocks.length = n) := ⟨_, rfl⟩
  obtain ⟨vals, HV⟩ : ∃ x, Hid (F.values = x) := ⟨_, rfl⟩
  obtain ⟨ba, bcap, rfl⟩ := hF.out HN.out HV.out
  rw [HN.out] at hb
  obtain ⟨bb, off, x, rfl, hx, t0, t1, t2, t3⟩ := hF.end hb
  have hbb : bb < w.heap.size := World.block_lt_of_cell? w _ t0
  rw [succsN_at hx]
  obtain ⟨xp, xl, xk, xa, xt, xe⟩ := x
  dsimp only at t0 t1 t2 t3
  show Calls _ _ _ _ fun e w' => GivesOwn w (succsV xk xt xe) e w'
  clear hx hF
  have hbi : (bn : Int) < (n : Int) := by omega
  by_cases h1 : xk = 1
  · subst h1
    rw [succsV_jump]
    go_enter Try.func37, Try.ntmps37
    go_wp2
    go_ret
    exact ⟨_, rfl, ownInts_one (by simp) (by omega), by repeat (first | exact Below.refl _ _ | apply Below.drew | refine Below.alloc ?_ (by simp <;> omega) _ | refine Below.setCell ?_ (by simp <;> omega) _)⟩
  · have g1 : (xk == 1) = false := by simp [h1]
    by_cases h2 : xk = 2
    · subst h2
      by_cases het : xe = xt
      · subst het
        rw [succsV_one rfl]
        go_enter Try.func37, Try.ntmps37
        go_wp2
        go_ret
        exact ⟨_, rfl, ownInts_one (by simp) (by omega), by repeat (first | exact Below.refl _ _ | apply Below.drew | refine Below.alloc ?_ (by simp <;> omega) _ | refine Below.setCell ?_ (by simp <;> omega) _)⟩
      · rw [succsV_two het]
        have g3 : (xt == xe) = false := by simp; exact fun h => het h.symm
        go_enter Try.func37, Try.ntmps37
        go_wp2
        go_ret
        exact ⟨_, rfl, ownInts_two (by simp) (by omega), by repeat (first | exact Below.refl _ _ | apply Below.drew | refine Below.alloc ?_ (by simp <;> omega) _ | refine Below.setCell ?_ (by simp <;> omega) _)⟩
    · have g2 : (xk == 2) = false := by simp [h2]
      rw [succsV_none h1 h2]
      go_enter Try.func37, Try.ntmps37
      go_wp2
      go_ret
      exact ⟨_, rfl, ownInts_nil (by simp) (by omega), by repeat (first | exact Below.refl _ _ | apply Below.drew | refine Below.alloc ?_ (by simp <;> omega) _ | refine Below.setCell ?_ (by simp <;> omega) _)⟩

/-- There is such a block of what is right. -/
def RightAt (F : FnD) (b : Int) : Prop := FnShape F ∧ 0 ≤ b ∧ b < F.blocks.length

set_option maxHeartbeats 1000000 in
theorem l3Right_any (v : Value) (F : FnD) (b : Int) (w : World) (hF : FnAt w v F) :
    Calls Try.prog 36 #[v, .int .i64 b] w fun e w' => GivesIff w (RightAt F b) e w' := by
  have HF : Hid (FnAt w v F) := hF
  obtain ⟨n, HN⟩ : ∃ n, Hid (F.blocks.length = n) := ⟨_, rfl⟩
  obtain ⟨vals, HV⟩ : ∃ x, Hid (F.values = x) := ⟨_, rfl⟩
  obtain ⟨ba, bcap, rfl⟩ := hF.out HN.out HV.out
  clear hF
  go_enter Try.func36, Try.ntmps36
  go_wp2_with fail
  refine (spec_shapeOk _ F _ (HF.out.later (by repeat (first | exact Below.refl _ _ | apply Below.drew | refine Below.alloc ?_ (by simp <;> omega) _ | refine Below.setCell ?_ (by simp <;> omega) _)))).mono ?_
  rintro e w1 ⟨s1, rfl, hs1, b1⟩
  have c0 : w1.cell? ⟨w.heap.size, 0, none⟩ = some (.slice ba n bcap) := Bel.keeps b1 (by simp [go_sem])
  have hB1 : Below w.heap.size w w1 := Bel.after (by repeat (first | exact Below.refl _ _ | apply Below.drew | refine Below.alloc ?_ (by simp <;> omega) _ | refine Below.setCell ?_ (by simp <;> omega) _)) b1
  have S1 : Hid (s1 = true ↔ FnShape F) := hs1
  clear b1 hs1
  cases s1 with
  | false =>
    go_wp2_with fail
    go_ret
    exact ⟨_, rfl, iff_no (fun h => by have := S1.out.2 h.1; cases this), hB1⟩
  | true =>
    have hyes : Hid (FnShape F) := S1.out.1 rfl
    have h16 : n ≤ 16 := by have := hyes.out.2.1; rw [HN.out] at this; exact this
    have h1 : 1 ≤ n := by have := hyes.out.1; rw [HN.out] at this; exact this
    go_wp2_with fail
    refine (l1In_any b 0 ((n : Int) - 1) _).mono ?_
    rintro e w2 ⟨rfl, rfl⟩
    by_cases hin : 0 ≤ b ∧ b < (n : Int)
    · have hd : (decide ((0 : Int) ≤ b) && decide (b ≤ (n : Int) - 1)) = true := by simp; omega
      rw [hd]
      go_wp2_with fail
      go_ret
      exact ⟨_, rfl, ⟨fun _ => ⟨hyes.out, hin.1, by rw [HN.out]; exact hin.2⟩, fun _ => rfl⟩, hB1⟩
    · have hd : (decide ((0 : Int) ≤ b) && decide (b ≤ (n : Int) - 1)) = false := by
        rw [Bool.and_eq_false_iff]
        simp only [decide_eq_false_iff_not]
        omega
      rw [hd]
      go_wp2_with fail
      go_ret
      exact ⟨_, rfl, iff_no (fun h => hin ⟨h.2.1, by have := h.2.2; rw [HN.out] at this; exact this⟩), hB1⟩

set_option maxHeartbeats 1000000 in
theorem spec_succs (v : Value) (F : FnD) (b : Int) (w : World) (hF : FnAt w v F) :
    Calls Try.prog 13 #[v, .int .i64 b] w fun e w' => GivesOwn w (succsOf F b) e w' := by
  have HF : Hid (FnAt w v F) := hF
  obtain ⟨n, HN⟩ : ∃ n, Hid (F.blocks.length = n) := ⟨_, rfl⟩
  obtain ⟨vals, HV⟩ : ∃ x, Hid (F.values = x) := ⟨_, rfl⟩
  obtain ⟨ba, bcap, rfl⟩ := hF.out HN.out HV.out
  clear hF
  go_enter Try.func13, Try.ntmps13
  go_wp2_with fail
  refine (l3Right_any _ F b _ (HF.out.later (by repeat (first | exact Below.refl _ _ | apply Below.drew | refine Below.alloc ?_ (by simp <;> omega) _ | refine Below.setCell ?_ (by simp <;> omega) _)))).mono ?_
  rintro e w1 ⟨s1, rfl, hs1, b1⟩
  have c0 : w1.cell? ⟨w.heap.size, 0, none⟩ = some (.slice ba n bcap) := Bel.keeps b1 (by simp [go_sem])
  have c1 : w1.cell? ⟨w.heap.size, 1, none⟩ = some (.int .i64 vals) := Bel.keeps b1 (by simp [go_sem])
  have hB1 : Below w.heap.size w w1 := Bel.after (by repeat (first | exact Below.refl _ _ | apply Below.drew | refine Below.alloc ?_ (by simp <;> omega) _ | refine Below.setCell ?_ (by simp <;> omega) _)) b1
  have S1 : Hid (s1 = true ↔ RightAt F b) := hs1
  clear b1 hs1
  cases s1 with
  | false =>
    have HE : Hid (succsOf F b = []) := succsOf_no (fun h => by have := S1.out.2 h; cases this)
    go_wp2_with fail
    go_ret
    rw [HE.out]
    exact ⟨_, rfl, ownInts_nil rfl hB1.size, Bel.after hB1 (by repeat (first | exact Below.refl _ _ | apply Below.drew | refine Below.alloc ?_ (by simp <;> omega) _ | refine Below.setCell ?_ (by simp <;> omega) _))⟩
  | true =>
    obtain ⟨h1, h2, h3⟩ := S1.out.1 rfl
    obtain ⟨bn, rfl⟩ : ∃ bn : Nat, b = (bn : Int) := ⟨b.toNat, by omega⟩
    have HE0 : succsOf F (bn : Int) = succsN F bn := by have := succsOf_yes h1 h2 h3; simpa using this
    have HE : Hid (succsOf F (bn : Int) = succsN F bn) := HE0
    have hlt : bn < F.blocks.length := by omega
    clear S1 h1 h2 h3 HE0
    go_wp2_with fail
    refine (l3Succs_any _ F bn _ (HF.out.later hB1) hlt).mono ?_
    rintro e w2 ⟨v2, rfl, o2, b2⟩
    go_wp2_with fail
    go_ret
    rw [HE.out]
    exact ⟨_, rfl, o2.low hB1.size, Bel.after hB1 b2⟩
end Go.Proofs.Ytggcpefhaijeiaa
