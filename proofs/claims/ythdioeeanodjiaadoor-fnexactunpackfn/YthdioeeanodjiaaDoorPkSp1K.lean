/- The model's PackFn. -/
import Derived.Test.YthdioeeanodjiaaDoorPkImpK
import Derived.Test.YthdioeeanodjiaaDoorShape8K
import Derived.Test.YthdioeeanodjiaaDoorKLa
namespace Go.Proofs.YthdioeeanodjiaaDoor
open Go.ChangeShapes Go.WideShapes Go.ChangeAt Go.RowKit
set_option linter.unusedVariables false

section
variable {P : Program}
theorem run_addOpP {o : Oper} {a : Act} {s x : Operand} {t : TypeId} {va vb v' : Value} {w w' : World} (ho : o.op = .call { callee := .builtin .append, args := #[s, x], argTypes := #[t, t] }) (hs : a.eval s = va) (hx : a.eval x = vb)
    (hrun : (Builtin.append_ #[t, t] o.type #[va, vb]).run P w = .ok v' w') : (execOp a.eval o).run P w = .ok (.value v') w' := by
  simp [execOp, ho, resolve, invoke, builtin, hs, hx, hrun, Result.andThen]
end
theorem spec_packNumX (x : Int) (w : World) : Calls Tryd.prog 28 #[.int .i64 x] w fun e w' => GivesB w (packX x) e w' := by
  by_cases hf : Formed x
  · exact spec_packNum x w (by unfold Formed at hf; omega)
  · have hin : (decide (-4611686018427387904 ≤ x) && decide (x ≤ 4611686018427387903)) = false := by
      unfold Formed at hf
      rw [Bool.and_eq_false_iff]
      simp
      omega
    go_enter Tryd.func28, Tryd.ntmps28
    go_wp2_with fail
    refine (l1In_any x (-4611686018427387904) 4611686018427387903 _).mono ?_
    rintro e w1 ⟨rfl, rfl⟩
    rw [hin]
    go_wp2_with fail
    go_ret
    exact ⟨_, rfl, by rw [packX_no hf]; exact ownB_new _ _ (Nat.le_refl _), by repeat (first | exact Below.refl _ _ | apply Below.drew | refine Below.alloc ?_ (by simp <;> omega) _ | refine Below.setCell ?_ (by simp <;> omega) _)⟩

def NmR (w : World) (xs : List Int) (n : Nat) (ov iv : Value) (wr : World) : Prop := ∃ k : Nat, k ≤ n ∧ iv = .int .i64 k ∧ OwnB wr w.heap.size ov (packB (xs.take k)) ∧ Below w.heap.size w wr
set_option maxRecDepth 100000 in
set_option maxHeartbeats 2000000 in
theorem l19Nums_any (g n : Nat) (xs : List Int) (w : World) (hn : xs.length = n) (hn9 : n ≤ 1000) (hc : ∀ i x, xs[i]? = some x → w.cell? ⟨g, i, none⟩ = some (.int .i64 x)) :
    Calls Tryd.prog 27 #[.slice (some ⟨g, 0, none⟩) n n] w fun e w' => GivesB w (packB xs) e w' := by
  have HC : Hid (∀ i x, xs[i]? = some x → w.cell? ⟨g, i, none⟩ = some (.int .i64 x)) := hc
  have HN : Hid (xs.length = n) := hn
  clear hc hn
  go_enter Tryd.func27, Tryd.ntmps27
  go_wp2_with fail
  go_loopw [3, 4] (fun ov iv wr => NmR w xs n ov iv wr) (fun _ iv _ => n - (intOf iv).toNat)
  case atStart => exact ⟨0, Nat.zero_le _, rfl, ownB_new _ _ (Nat.le_refl _), Bel.alloc _ _⟩
  case round =>
    obtain ⟨k, hk, rfl, ho, hb⟩ := hrel
    have HO : Hid (OwnB wr w.heap.size u3 (packB (xs.take k))) := ho
    have HB : Hid (Below w.heap.size w wr) := hb
    obtain ⟨m, HM⟩ : ∃ z, Hid ((packB (xs.take k)).length = z) := ⟨_, rfl⟩
    have HML : Hid (m ≤ 9000) := by
      have h1 := packB_len (xs.take k)
      have h2 := HM.out
      have h3 := HN.out
      rw [List.length_take] at h1
      show _ ≤ _
      omega
    obtain ⟨va, vc, rfl⟩ := ho.form HM.out
    clear ho hb
    by_cases hlt : (k : Int) < (n : Int)
    · have hkn : k < n := by omega
      obtain ⟨x, HX⟩ : ∃ x, Hid (xs[k]? = some x) := ⟨_, List.getElem?_eq_getElem (by rw [HN.out]; exact hkn)⟩
      have q0 := Bel.keeps HB.out (HC.out k x HX.out)
      go_wp2_with fail
      refine (spec_packNumX x _).mono ?_
      rintro e w1 ⟨v1, rfl, o1, b1⟩
      obtain ⟨v', w5, hrun, o5, b5, s5, _⟩ := add_bytes w.heap.size wr.heap.size (.slice va m vc) v1 (packB (xs.take k)) (packX x) w1 (HO.out.keep b1) o1 (Nat.le_trans HB.out.size b1.size) (by have := packX_len x; have := HML.out; rw [HM.out]; omega)
      rw [← packB_next HX.out] at o5
      have HR : Hid (NmR w xs n v' (.int .i64 ((k : Int) + 1)) w5) := ⟨k + 1, by omega, by simp, o5, (Bel.after HB.out b1).trans b5⟩
      clear o1 b1 o5 b5 s5 q0
      go_wp2_with (at_builtin; refine wpList_appendR rfl _ _ 22 rfl rfl rfl hrun ?_)
      go_roundw
      case rel =>
        first
          | exact HR.out
          | ((repeat apply Exists.intro); exact ⟨HR.out, rfl⟩)
      case measure => simp [intOf]; omega
    · have hkn : k = n := by omega
      subst hkn
      have HA : Hid (OwnB wr w.heap.size (.slice va m vc) (packB xs)) := by
        show OwnB _ _ _ _
        have h9 := HO.out
        rwa [← HN.out, List.take_length] at h9
      go_wp2_with fail
      go_ret
      exact ⟨_, rfl, HA.out, HB.out⟩

/-- What is packed so far, apart from what K names. -/
structure SpSt (K : Nat → Prop) (lo : Nat) (w0 wr : World) (v : Value) (l : List UInt8) : Prop where
  own : OwnB wr lo v l
  sep : ∀ g, v.ownBlock = some g → ¬ K g
  off : ∀ g, K g → g < w0.heap.size ∧ wr.heap[g]? = w0.heap[g]?
  bel : Below lo w0 wr
  le : lo ≤ w0.heap.size
theorem SpSt.keep {K : Nat → Prop} {lo : Nat} {w0 wr wr' : World} {v : Value} {l : List UInt8} (h : SpSt K lo w0 wr v l) (hb : Below wr.heap.size wr wr') : SpSt K lo w0 wr' v l :=
  ⟨h.own.keep hb, h.sep, fun g hg => ⟨(h.off g hg).1, (hb.block g (Nat.lt_of_lt_of_le (h.off g hg).1 h.bel.size)).trans (h.off g hg).2⟩, h.bel.trans (hb.mono (Nat.le_trans h.le h.bel.size)), h.le⟩
theorem SpSt.begin {K : Nat → Prop} {lo : Nat} {w0 wr w' : World} {v : Value} {l : List UInt8} (h : SpSt K lo w0 wr v l) (hb : Below wr.heap.size wr w') : SpSt (KNew K wr w') lo w' w' v l :=
  ⟨h.own.keep hb, fun g hg hk => by
    rcases hk with hk | hk
    · exact h.sep g hg hk
    · have := (h.own.lt g hg).2; omega, fun g hg => by
    refine ⟨?_, rfl⟩
    rcases hg with hg | hg
    · exact Nat.lt_of_lt_of_le (h.off g hg).1 (Nat.le_trans h.bel.size hb.size)
    · exact hg.2, Below.refl _ _, Nat.le_trans h.le (Nat.le_trans h.bel.size hb.size)⟩
theorem SpSt.back {K K' : Nat → Prop} {lo : Nat} {w0 w1 wr : World} {v : Value} {l : List UInt8} (h : SpSt K' lo w1 wr v l) (hK : ∀ g, K g → K' g) (h0 : Below lo w0 w1) (hk : ∀ g, K g → g < w0.heap.size ∧ w1.heap[g]? = w0.heap[g]?) (hl : lo ≤ w0.heap.size) : SpSt K lo w0 wr v l :=
  ⟨h.own, fun g hg hk' => h.sep g hg (hK g hk'), fun g hg => ⟨(hk g hg).1, (h.off g (hK g hg)).2.trans (hk g hg).2⟩, h0.trans h.bel, hl⟩
theorem SpSt.add {K : Nat → Prop} {lo lo2 : Nat} {w0 wr : World} {v x : Value} {l m : List UInt8} (h : SpSt K lo w0 wr v l) (hx : OwnB wr lo2 x m) (hn : l.length + m.length ≤ 140737488355328) :
    ∃ va vq vc w3, (∀ ty, (Builtin.append_ #[22, 22] ty #[v, x]).run Tryd.prog wr = .ok (.slice va vq vc) w3) ∧ SpSt K lo w0 w3 (.slice va vq vc) (l ++ m) ∧ Below lo wr w3 := by
  obtain ⟨v', w3, hrun, o3, b3, s3, k3⟩ := add_bytes lo lo2 v x l m wr h.own hx (Nat.le_trans h.le h.bel.size) hn
  obtain ⟨va, vc, e⟩ := o3.form rfl
  subst e
  have hKs : ∀ g, K g → g < wr.heap.size := fun g hg => Nat.lt_of_lt_of_le (h.off g hg).1 h.bel.size
  exact ⟨va, _, vc, w3, hrun, ⟨o3, fun g hg hk => (k3 g (hKs g hk) (fun e => h.sep g e hk)).2 hg, fun g hg => ⟨(h.off g hg).1, (k3 g (hKs g hg) (fun e => h.sep g e hg)).1.trans (h.off g hg).2⟩, h.bel.trans b3, h.le⟩, b3⟩
theorem SpSt.congr {K : Nat → Prop} {lo : Nat} {w0 wr : World} {v : Value} {l m : List UInt8} (h : SpSt K lo w0 wr v l) (e : l = m) : SpSt K lo w0 wr v m := by rw [← e]; exact h

/-- Each number of a program that has a shape has a form, but what the places' N are. -/
theorem valIn_formed {n v : Int} (h : valIn n v = true) (hn : n ≤ 1000) : Formed v := by
  rw [valIn_iff] at h
  unfold Formed
  omega
end Go.Proofs.YthdioeeanodjiaaDoor
