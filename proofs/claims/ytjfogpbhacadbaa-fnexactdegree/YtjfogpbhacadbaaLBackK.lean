/- The places of a list from the last one on: the library's iterator, by its contract. -/
import Derived.Test.YtjfogpbhacadbaaLRangeK
import Derived.Test.YtjfogpbhacadbaaKSeq
import Derived.Test.YtjfogpbhacadbaaKIns
namespace Go.Proofs.Ytjfogpbhacadbaa
open Go.ChangeShapes Go.WideShapes Go.ChangeAt Go.RowKit Go.Shelf
set_option linter.unusedVariables false
attribute [local go_sem] Oper.semAt_some

def KeepsOn (P : Nat → Prop) (W W' : World) : Prop := ∀ (k : Nat) (o : Obj), P k → W.heap[k]? = some o → W'.heap[k]? = some o
theorem KeepsOn.cell {P : Nat → Prop} {W W' : World} (h : KeepsOn P W W') {p : Addr} {v : Value} (hp : P p.block) (hc : W.cell? p = some v) : W'.cell? p = some v := by
  unfold World.cell? at hc ⊢
  cases e : W.heap[p.block]? with
  | none => rw [e] at hc; cases hc
  | some o => rw [e] at hc; rw [h _ _ hp e]; exact hc
theorem KeepsOn.places {P : Nat → Prop} {W W' : World} (h : KeepsOn P W W') {la : Option Addr} {ln lcap : Nat} (hP : ∀ b off, la = some ⟨b, off, none⟩ → P b) {X : List InsD} (hL : ListAt 0 5 InsAt W (.slice la ln lcap) X) : ListAt 0 5 InsAt W' (.slice la ln lcap) X := by
  obtain ⟨a, cap, e, hm, hc⟩ := hL
  refine ⟨a, cap, e, hm, fun hp => ?_⟩
  obtain ⟨b, off, rfl, hlo, hx⟩ := hc hp
  simp at e
  refine ⟨b, off, rfl, hlo, fun i x hi => ?_⟩
  obtain ⟨c0, c1, c2, c3, c4⟩ := hx i x hi
  have hb := hP b off e.1
  exact ⟨h.cell hb c0, h.cell hb c1, h.cell hb c2, h.cell hb c3, h.cell hb c4⟩
theorem placeAt {W : World} {la : Option Addr} {ln lcap : Nat} {X : List InsD} (hL : ListAt 0 5 InsAt W (.slice la ln lcap) X) {j : Nat} {x : InsD} (h : X[j]? = some x) : ∃ b off, la = some ⟨b, off, none⟩ ∧ InsAt W b (off + j * 5) x := by
  obtain ⟨a, cap, e, hm, hc⟩ := hL
  have hj : j < X.length := (List.getElem?_eq_some_iff.1 h).1
  obtain ⟨b, off, rfl, hlo, hx⟩ := hc (by omega)
  simp at e
  exact ⟨b, off, e.1, hx j x h⟩

theorem backward_of (la : Option Addr) (ln lcap : Nat) (w : World) :
    Calls Try.prog 47 #[.slice la ln lcap] w fun r w' => r = .returned (.func (.func 69) #[] #[.pointer (some ⟨w.heap.size, 0, none⟩)]) ∧ w' = w.alloc (.cells #[.slice la ln lcap] 55) := by
  go_enter Try.func47, Try.ntmps47
  go_wp2
  go_ret
  exact ⟨rfl, rfl⟩

def bkEnc (y : Int × InsD) : Array Value := #[.int .i64 y.1, .agg #[.int .i64 y.2.op, .int .i64 y.2.d, .int .i64 y.2.a, .int .i64 y.2.b, .int .i64 y.2.n]]
/-- Place j comes when all behind it have come. -/
def bkOd (X : List InsD) (pre : List (Int × InsD)) (y : Int × InsD) : Prop := ∃ j : Nat, pre.length + (j + 1) = X.length ∧ y.1 = (j : Int) ∧ X[j]? = some y.2

set_option maxRecDepth 100000 in
set_option maxHeartbeats 4000000 in
theorem back_seq (n : Nat) (hn : 1 ≤ n) (l B : Nat) (X : List InsD) (la : Option Addr) (ln lcap : Nat) (P : Nat → Prop) (hPB : P B) (hPl : 0 < ln → ∀ b off, la = some ⟨b, off, none⟩ → P b) (J Jx : List (Int × InsD) → World → Prop)
    (hY : ∀ pre y W, J pre W → bkOd X pre y → YieldAt Fence.wide (n - 1) Try.prog l (bkEnc y) W fun r W' =>
      (r = .returned (.bool true) ∧ J (pre ++ [y]) W' ∧ KeepsOn P W W') ∨ (r = .returned (.bool false) ∧ Jx (pre ++ [y]) W'))
    (W : World) (hB : W.cell? ⟨B, 0, none⟩ = some (.slice la ln lcap)) (hL : ListAt 0 5 InsAt W (.slice la ln lcap) X) (hln : X.length = ln) (h0 : J [] W) :
    CallsIn Fence.wide n Try.prog 69 #[.func (.yield l) #[] #[], .pointer (some ⟨B, 0, none⟩)] W fun r W' => (∃ v, r = .returned v) ∧
      ((∃ ys : List (Int × InsD), ys.length = ln ∧ J ys W') ∨ (∃ pre : List (Int × InsD), Jx pre W')) := by
  have HN : Hid (X.length = ln) := hln
  have HY : Hid (∀ pre y W, J pre W → bkOd X pre y → YieldAt Fence.wide (n - 1) Try.prog l (bkEnc y) W fun r W' =>
      (r = .returned (.bool true) ∧ J (pre ++ [y]) W' ∧ KeepsOn P W W') ∨ (r = .returned (.bool false) ∧ Jx (pre ++ [y]) W')) := hY
  have HL : Hid (ListAt 0 5 InsAt W (.slice la ln lcap) X) := hL
  have HP : Hid (P B) := hPB
  have HPL : Hid (0 < ln → ∀ b off, la = some ⟨b, off, none⟩ → P b) := hPl
  have H0 : Hid (J [] W) := h0
  have hmost : ln ≤ 9223372036854775807 := by obtain ⟨a, cap, e, hm, _⟩ := hL; rw [hln] at hm; exact hm
  clear hln hY hL hPB hPl h0
  refine callsIn_of_wp Try.func69 rfl trivial ?_ rfl
  simp only [Try.ntmps69, List.size_toArray, List.length_cons, List.length_nil, Nat.reduceAdd, Nat.reduceSub, Array.replicate_succ, Array.replicate_zero, List.push_toArray, List.append_toArray, List.nil_append, List.cons_append]
  gi_wp2
  gi_loopw [3] (fun i wr => ∃ (m : Nat) (pre : List (Int × InsD)), pre.length + m = ln ∧ i = .int .i64 ((m : Int) - 1) ∧ J pre wr ∧ wr.cell? ⟨B, 0, none⟩ = some (.slice la ln lcap) ∧ ListAt 0 5 InsAt wr (.slice la ln lcap) X) (fun i _ => (intOf i + 1).toNat)
  case atStart => exact ⟨ln, [], by simp, rfl, H0.out, hB, HL.out⟩
  case round =>
    obtain ⟨wq, hwq⟩ : ∃ x, x = wr := ⟨_, rfl⟩
    subst hwq
    obtain ⟨m, pre, hpl, rfl, hJ, hBq, hLq⟩ := hrel
    have HPl : Hid (pre.length + m = ln) := hpl
    have HJ : Hid (J pre wq) := hJ
    have HLq : Hid (ListAt 0 5 InsAt wq (.slice la ln lcap) X) := hLq
    clear hJ hLq
    cases m with
    | zero =>
      obtain ⟨z, hz⟩ : ∃ z : Int, ((0 : Nat) : Int) - 1 = z := ⟨_, rfl⟩
      rw [hz]
      have hz1 : z < 0 := by omega
      clear hz hpl
      gi_wp2
      go_end0
      exact ⟨⟨_, rfl⟩, .inl ⟨pre, HPl.out, HJ.out⟩⟩
    | succ j =>
      have hjl : j < X.length := by have := HN.out; omega
      obtain ⟨x, HX⟩ : ∃ x, Hid (X[j]? = some x) := ⟨X[j], List.getElem?_eq_getElem hjl⟩
      rw [show ((j + 1 : Nat) : Int) - 1 = (j : Int) by omega]
      obtain ⟨b, off, hla, c0, c1, c2, c3, c4⟩ := placeAt HLq.out HX.out
      have hlt : (j : Int) < (ln : Int) := by omega
      subst hla
      obtain ⟨fn, tmps, assign, body, hy, hR⟩ := HY.out pre ((j : Int), x) wq HJ.out ⟨j, by rw [HN.out]; exact HPl.out, rfl, HX.out⟩
      obtain ⟨x0, x1, x2, x3, x4⟩ := x
      dsimp only [bkEnc] at hy c0 c1 c2 c3 c4
      clear hjl hpl
      gi_wp2
      refine hR.mono ?_
      rintro e W3 (⟨rfl, hJ3, hk3⟩ | ⟨rfl, hJx3⟩)
      · have hB3 := hk3.cell (p := ⟨B, 0, none⟩) HP.out hBq
        have hL3 := hk3.places (HPL.out (by omega)) HLq.out
        gi_wp2
        go_roundw
        case rel => exact ⟨j, _, by simp; have := HPl.out; omega, rfl, hJ3, hB3, hL3⟩
        case measure => simp [intOf]
      · gi_wp2
        refine bodyPost_ret (results_none rfl _ _ _) rfl ?_
        exact ⟨⟨_, rfl⟩, .inr ⟨_, hJx3⟩⟩

theorem back_ord (n : Nat) (hn : 1 ≤ n) (B : Nat) (X : List InsD) (la : Option Addr) (ln lcap : Nat) (P : Nat → Prop) (hPB : P B) (hPl : 0 < ln → ∀ b off, la = some ⟨b, off, none⟩ → P b) (w : World) (hB : w.cell? ⟨B, 0, none⟩ = some (.slice la ln lcap)) (hL : ListAt 0 5 InsAt w (.slice la ln lcap) X) (hln : X.length = ln) :
    SeqOrd Fence.wide n Try.prog 69 #[.pointer (some ⟨B, 0, none⟩)] bkEnc (KeepsOn P) (bkOd X) (fun ys => ys.length = ln) w := fun l J Jx W hW _ _ hY h0 =>
  back_seq n hn l B X la ln lcap P hPB hPl J Jx hY W (Bel.keeps hW hB) (places_keep hL (Keeps.of_below hW 0)) hln h0
theorem keepsOn_t {P : Nat → Prop} {A B C : World} (h : KeepsOn P A B) (k : KeepsOn P B C) : KeepsOn P A C := fun i o hp h1 => k i o hp (h i o hp h1)
theorem keepsOn_b {P : Nat → Prop} {w : World} (hP : ∀ k, P k → ∀ o, w.heap[k]? = some o → k < w.heap.size) (W : World) (l : Nat) (o o' : Obj) (hl : w.heap.size ≤ l) (h : W.heap[l]? = some o) (hc : o.isCells = false) (_ : o.isWalk = false) (hk : ∀ k, P k → k ≠ l) : KeepsOn P W (W.putObj l o') := fun k u hp h1 => (World.putObj_heap_other (hk k hp)).trans h1
end Go.Proofs.Ytjfogpbhacadbaa
