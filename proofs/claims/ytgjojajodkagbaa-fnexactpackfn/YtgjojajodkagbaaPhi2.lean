/- The shape of a program, part 6: the phis, as the program looks at them. -/
import Derived.Test.YtgjojajodkagbaaPhi1
namespace Go.Proofs.Ytgjojajodkagbaa
open Go.ChangeShapes Go.WideShapes Go.ChangeAt Go.RowKit
set_option linter.unusedVariables false

/-- Has one of the first k arms come from c? -/
def seenV (arms : List ArmD) (k : Nat) (c : Int) : Bool := (arms.take k).any (fun x => x.fr == c)
theorem seenV_zero (arms : List ArmD) (c : Int) : seenV arms 0 c = false := by simp [seenV]
theorem seenV_step {arms : List ArmD} {k : Nat} {x : ArmD} (hx : arms[k]? = some x) (c : Int) : seenV arms (k + 1) c = (seenV arms k c || (x.fr == c)) := by
  unfold seenV
  rw [List.take_add_one, List.any_append, hx]
  simp
theorem seenV_false {arms : List ArmD} {k : Nat} {c : Int} (h : seenV arms k c = false) (i : Nat) (y : ArmD) (hi : i < k) (hy : arms[i]? = some y) : (y.fr == c) = false := by
  unfold seenV at h
  rw [List.any_eq_false] at h
  have hm : y ∈ arms.take k := by
    apply List.mem_of_getElem? (i := i)
    rw [List.getElem?_take_of_lt hi]
    exact hy
  simpa using h y hm
theorem seenV_true {arms : List ArmD} {k : Nat} {c : Int} (h : seenV arms k c = true) : ∃ i y, i < k ∧ arms[i]? = some y ∧ (y.fr == c) = true := by
  unfold seenV at h
  rw [List.any_eq_true] at h
  obtain ⟨y, hy, hc⟩ := h
  obtain ⟨i, hi, rfl⟩ := List.mem_iff_getElem.1 hy
  have hi2 : i < k ∧ i < arms.length := by simp at hi; omega
  exact ⟨i, _, hi2.1, by rw [List.getElem_take, List.getElem?_eq_getElem hi2.2], hc⟩

/-- The row of marks. -/
def Marks (w : World) (B : Nat) (arms : List ArmD) (k : Nat) : Prop := ∀ c : Nat, c < 16 → w.cell? ⟨B, c, none⟩ = some (.bool (seenV arms k (c : Int))) ∧ w.frozen? ⟨B, c, none⟩ = false
theorem Marks.keep {w w' : World} {B k : Nat} {arms : List ArmD} (h : Marks w B arms k) (hb : Below w.heap.size w w') : Marks w' B arms k := fun c hc =>
  ⟨Bel.keeps hb (h c hc).1, by rw [hb.frozen (p := ⟨B, c, none⟩) (World.block_lt_of_cell? w _ (h c hc).1)]; exact (h c hc).2⟩
theorem Marks.store {w : World} {B k : Nat} {arms : List ArmD} {x : ArmD} (h : Marks w B arms k) (hx : arms[k]? = some x) (c : Nat) (hc : x.fr = (c : Int)) : Marks (w.setCell ⟨B, c, none⟩ (.bool true)) B arms (k + 1) := fun c' hc' => by
  rw [seenV_step hx]
  refine ⟨?_, by simpa using (h c' hc').2⟩
  by_cases e : c = c'
  · subst e
    rw [hc]
    simp only [beq_self_eq_true, Bool.or_true]
    exact World.cell?_setCell_same _ _ _ (h c hc').1
  · have hne : (x.fr == (c' : Int)) = false := by rw [hc]; simp; omega
    rw [hne, Bool.or_false, World.cell?_setCell_other _ _ _ _ (by intro h; exact e (by simpa using congrArg (fun (x : Addr) => x.off) h))]
    exact (h c' hc').1
theorem marks_new (w : World) (arms : List ArmD) (t : TypeId) (B : Nat) (hB : B = w.heap.size) : Marks (w.alloc (.cells #[.bool false, .bool false, .bool false, .bool false, .bool false, .bool false, .bool false, .bool false, .bool false, .bool false, .bool false, .bool false, .bool false, .bool false, .bool false, .bool false] t)) B arms 0 := fun c hc => by
  subst hB
  rw [seenV_zero]
  have h : c = 0 ∨ c = 1 ∨ c = 2 ∨ c = 3 ∨ c = 4 ∨ c = 5 ∨ c = 6 ∨ c = 7 ∨ c = 8 ∨ c = 9 ∨ c = 10 ∨ c = 11 ∨ c = 12 ∨ c = 13 ∨ c = 14 ∨ c = 15 := by omega
  rcases h with rfl | rfl | rfl | rfl | rfl | rfl | rfl | rfl | rfl | rfl | rfl | rfl | rfl | rfl | rfl | rfl <;> simp

set_option maxHeartbeats 4000000 in
theorem phiOk_any (ba : Option Addr) (bn bcap : Nat) (vals d : Int) (sv : Value) (arms : List ArmD) (w : World) (ha : ListAt 0 2 ArmAt w sv arms) (hbn : bn ≤ 16) :
    Calls Try.prog 57 #[.agg #[.slice ba bn bcap, .int .i64 vals], .agg #[.int .i64 d, sv]] w fun e w' => GivesIff w (PhiOk (bn : Int) vals ⟨d, arms⟩) e w' := by
  obtain ⟨a, cap, rfl, hm, hc⟩ := ha
  obtain ⟨n, HN⟩ : ∃ n, Hid (arms.length = n) := ⟨_, rfl⟩
  rw [HN.out] at hm hc ⊢
  have HC : Hid (0 < n → ∃ b off, a = some ⟨b, off, none⟩ ∧ 0 ≤ b ∧ ∀ i x, arms[i]? = some x → ArmAt w b (off + i * 2) x) := hc
  clear hc
  go_enter Try.func57, Try.ntmps57
  go_wp2_with fail
  refine (valueIn_any ba bn bcap vals d _).mono ?_
  rintro e w1 ⟨rfl, b1⟩
  have HB1 : Hid (Below w.heap.size w w1) := Bel.after (by repeat (first | exact Below.refl _ _ | apply Below.drew | refine Below.alloc ?_ (by simp <;> omega) _ | refine Below.setCell ?_ (by simp <;> omega) _)) b1
  have f0 := Bel.keeps b1 (p := ⟨w.heap.size, 0, none⟩) (v := .slice ba bn bcap) (by simp [go_sem])
  have f1 := Bel.keeps b1 (p := ⟨w.heap.size, 1, none⟩) (v := .int .i64 vals) (by simp [go_sem])
  have p0 := Bel.keeps b1 (p := ⟨w.heap.size + 1, 0, none⟩) (v := .int .i64 d) (by simp [go_sem])
  have p1 := Bel.keeps b1 (p := ⟨w.heap.size + 1, 1, none⟩) (v := .slice a n cap) (by simp [go_sem])
  have HSZ : Hid (w.heap.size < w1.heap.size) := World.block_lt_of_cell? w1 _ f0
  have hsz0 : w.heap.size < w1.heap.size := HSZ.out
  have hsz1 : w.heap.size + 1 < w1.heap.size := World.block_lt_of_cell? w1 _ p0
  clear b1
  cases hvd : valIn vals d
  · go_wp2
    go_ret
    exact ⟨false, rfl, by simp [PhiOk, hvd], HB1.out⟩
  · by_cases h16 : (16 : Int) < (n : Int)
    · go_wp2
      go_ret
      exact ⟨false, rfl, by have := HN.out; simp [PhiOk]; intro _ h; omega, HB1.out⟩
    · go_wp2
      go_loopw [22] (fun i wr => ∃ k : Nat, k ≤ n ∧ i = .int .i64 k ∧ ArmsOk (bn : Int) vals arms k ∧ Below w.heap.size w wr ∧ Marks wr w1.heap.size arms k ∧ w1.heap.size < wr.heap.size ∧ wr.cell? ⟨w.heap.size, 0, none⟩ = some (.slice ba bn bcap) ∧ wr.cell? ⟨w.heap.size, 1, none⟩ = some (.int .i64 vals)) (fun i _ => n - (intOf i).toNat)
      case atStart => exact ⟨0, Nat.zero_le _, rfl, fun j x hj => absurd hj (by omega), Bel.after HB1.out (Bel.alloc _ _), marks_new _ _ _ _ rfl, by simp, Bel.keeps (Bel.alloc _ _) f0, Bel.keeps (Bel.alloc _ _) f1⟩
      case round =>
        clear f0 f1 p0 p1
        obtain ⟨k, hk, rfl, hok, hb3, hmk, hsz, f0, f1⟩ := hrel
        have hszr : w.heap.size < wr.heap.size := by omega
        have HK : Hid (ArmsOk (bn : Int) vals arms k) := hok
        have H1 : Hid (Below w.heap.size w wr) := hb3
        have HM : Hid (Marks wr w1.heap.size arms k) := hmk
        clear hok hb3 hmk
        by_cases hlt : (k : Int) < (n : Int)
        · obtain ⟨b, off, rfl, _, hc1⟩ := HC.out (by omega)
          have hkl : k < arms.length := by have := HN.out; omega
          obtain ⟨x, HX⟩ : ∃ x, Hid (arms[k]? = some x) := ⟨arms[k], List.getElem?_eq_getElem hkl⟩
          obtain ⟨c0, c1⟩ := (hc1 k x HX.out).keep (Keeps.of_below H1.out 0) (Nat.zero_le _)
          clear hc1 hkl
          obtain ⟨x0, x1⟩ := x
          go_wp2_with fail
          refine (blockIn_any ba bn bcap vals x0 _).mono ?_
          rintro e w2 ⟨rfl, b2⟩
          have HB2 : Hid (Below w.heap.size w w2) := Bel.after (Bel.after H1.out (Bel.alloc _ _)) b2
          have HM2 : Hid (Marks w2 w1.heap.size arms k) := (HM.out.keep (Bel.alloc _ _)).keep b2
          have y0 := Bel.keeps b2 (p := ⟨wr.heap.size, 0, none⟩) (v := .int .i64 x0) (by simp [go_sem])
          have y1 := Bel.keeps b2 (p := ⟨wr.heap.size, 1, none⟩) (v := .int .i64 x1) (by simp [go_sem])
          have h0 := Bel.keeps b2 (Bel.keeps (Bel.alloc _ _) f0)
          have h1 := Bel.keeps b2 (Bel.keeps (Bel.alloc _ _) f1)
          have hsz2 : w1.heap.size < w2.heap.size := by have := b2.size; simp at this; omega
          clear b2 f0 f1 c0 c1
          cases hvb : valIn (bn : Int) x0
          · go_wp2
            go_ret
            exact ⟨false, rfl, iff_no (by intro hp; obtain ⟨_, _, h⟩ := hp; have h2 := (h k ⟨x0, x1⟩ (by have := HN.out; show k < arms.length; omega) HX.out).1; rw [hvb] at h2; exact (nomatch h2)), HB2.out⟩
          · obtain ⟨hx0, hx1⟩ := valIn_iff.1 hvb
            obtain ⟨c, rfl⟩ := Int.eq_ofNat_of_zero_le hx0
            have hc16 : c < 16 := by omega
            have hc16' : (c : Int) < 16 := by omega
            obtain ⟨s0, s1⟩ := HM2.out c hc16
            cases hseen : seenV arms k (c : Int)
            · rw [hseen] at s0
              go_wp2_with fail
              refine (valueIn_any ba bn bcap vals x1 _).mono ?_
              rintro e w3 ⟨rfl, b3⟩
              have HB3 : Hid (Below w.heap.size w w3) := Bel.after HB2.out b3
              have HM3 : Hid (Marks w3 w1.heap.size arms k) := HM2.out.keep b3
              have z0 := Bel.keeps b3 y0
              have i0 := Bel.keeps b3 h0
              have i1 := Bel.keeps b3 h1
              have hsz3 : w1.heap.size < w3.heap.size := Nat.lt_of_lt_of_le hsz2 b3.size
              clear b3 y0 y1 h0 h1 s0 s1
              obtain ⟨s0, s1⟩ := HM3.out c hc16
              rw [hseen] at s0
              cases hvv : valIn vals x1
              · go_wp2
                go_ret
                exact ⟨false, rfl, iff_no (by intro hp; obtain ⟨_, _, h⟩ := hp; have h2 := (h k ⟨(c : Int), x1⟩ (by have := HN.out; show k < arms.length; omega) HX.out).2.1; rw [hvv] at h2; exact (nomatch h2)), HB3.out⟩
              · have hwsz : w.heap.size < w1.heap.size := HSZ.out
                go_wp2
                go_roundw
                case rel => exact ⟨k + 1, by omega, by go_num, HK.out.step HX.out hvb hvv (fun i y hi hy => seenV_false hseen i y hi hy), HB3.out.setCell (Nat.le_of_lt hwsz) _, HM3.out.store HX.out c rfl, by simpa using hsz3, by rw [World.cell?_setCell_other _ _ _ _ (by intro h; have h2 := congrArg (fun (x : Addr) => x.block) h; simp at h2; omega)]; exact i0, by rw [World.cell?_setCell_other _ _ _ _ (by intro h; have h2 := congrArg (fun (x : Addr) => x.block) h; simp at h2; omega)]; exact i1⟩
                case measure => simp [intOf]; omega
            · rw [hseen] at s0
              go_wp2
              go_ret
              exact ⟨false, rfl, iff_no (by intro hp; obtain ⟨_, _, h⟩ := hp; obtain ⟨i, y, hi, hy, he⟩ := seenV_true hseen; have h2 := (h k ⟨(c : Int), x1⟩ (by have := HN.out; show k < arms.length; omega) HX.out).2.2 i y hi hy; rw [he] at h2; exact (nomatch h2)), HB2.out⟩
        · have hkn : k = n := by omega
          have HKN : Hid (k = n) := hkn
          clear hkn
          go_wp2
          go_ret
          exact ⟨true, rfl, ⟨fun _ => ⟨hvd, by have := HN.out; show arms.length ≤ 16; omega, by show ArmsOk (bn : Int) vals arms arms.length; rw [HN.out, ← HKN.out]; exact HK.out⟩, fun _ => rfl⟩, H1.out⟩
end Go.Proofs.Ytgjojajodkagbaa
