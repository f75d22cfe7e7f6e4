/- The program's packer: its state, and a list of numbers put. -/
import Derived.Test.YtgjojajodkagbaaPkFn
import Derived.Test.YtgjojajodkagbaaPkNum
import Derived.Deep.OwnRows
namespace Go.Proofs.Ytgjojajodkagbaa
open Go.ChangeShapes Go.WideShapes Go.ChangeAt Go.RowKit
set_option linter.unusedVariables false

theorem cell_sameP {w w' : World} {g : Nat} (h : w'.heap[g]? = w.heap[g]?) (o : Nat) : w'.cell? ⟨g, o, none⟩ = w.cell? ⟨g, o, none⟩ := by simp [World.cell?, h]
/-- The packer in block Q; its list lies from lo on, apart from what K names. -/
def PkAt (K : Nat → Prop) (lo Q : Nat) (w : World) (l : List UInt8) (ok : Bool) : Prop :=
  ∃ v, w.heap[Q]? = some (.cells #[v, .bool ok] 76 (0, 0)) ∧ OwnB w lo v l ∧ (∀ g, v.ownBlock = some g → g ≠ Q ∧ ¬ K g) ∧ (∀ g, K g → g ≠ Q ∧ g < w.heap.size) ∧ lo ≤ Q ∧ lo ≤ w.heap.size
theorem PkAt.keep {K : Nat → Prop} {lo Q : Nat} {w w' : World} {l : List UInt8} {ok : Bool} (h : PkAt K lo Q w l ok) (hb : Below w.heap.size w w') : PkAt (fun g => K g ∨ (w.heap.size ≤ g ∧ g < w'.heap.size)) lo Q w' l ok := by
  obtain ⟨v, h1, h2, h3, h4, h5, h6⟩ := h
  have hQ := (Array.getElem?_eq_some_iff.1 h1).1
  have hs := hb.size
  refine ⟨v, (hb.block Q hQ).trans h1, h2.keep hb, fun g hg => ⟨(h3 g hg).1, fun hk => ?_⟩, fun g hg => ?_, h5, Nat.le_trans h6 hs⟩
  · rcases hk with hk | hk
    · exact (h3 g hg).2 hk
    · have := (h2.lt g hg).2; omega
  · rcases hg with hg | hg
    · exact ⟨(h4 g hg).1, Nat.lt_of_lt_of_le (h4 g hg).2 hs⟩
    · exact ⟨by omega, hg.2⟩
theorem PkAt.less {K K' : Nat → Prop} {lo Q : Nat} {w : World} {l : List UInt8} {ok : Bool} (h : PkAt K lo Q w l ok) (hk : ∀ g, K' g → K g) : PkAt K' lo Q w l ok := by
  obtain ⟨v, h1, h2, h3, h4, h5, h6⟩ := h
  exact ⟨v, h1, h2, fun g hg => ⟨(h3 g hg).1, fun hk' => (h3 g hg).2 (hk g hk')⟩, fun g hg => h4 g (hk g hg), h5, h6⟩
/-- The packer between the two writes of a round, and behind them. -/
theorem PkAt.step {K : Nat → Prop} {lo Q lo2 : Nat} {w : World} {l m : List UInt8} {ok b : Bool} {v x : Value} (h1 : w.heap[Q]? = some (.cells #[v, .bool ok] 76 (0, 0))) (h2 : OwnB w lo v l) (h3 : ∀ g, v.ownBlock = some g → g ≠ Q ∧ ¬ K g) (h4 : ∀ g, K g → g ≠ Q ∧ g < w.heap.size) (h5 : lo ≤ Q) (h6 : lo ≤ w.heap.size) (hx : OwnB w lo2 x m) (hxQ : ∀ g, x.ownBlock = some g → g ≠ Q) (hn : l.length + m.length ≤ 140737488355328) :
    ∃ v' w3, (∀ ty, (Builtin.append_ #[22, 22] ty #[v, x]).run Try.prog (w.setCell ⟨Q, 1, none⟩ (.bool b)) = .ok v' w3) ∧ w3.cell? ⟨Q, 0, none⟩ = some v ∧ w3.frozen? ⟨Q, 0, none⟩ = false ∧
      PkAt K lo Q (w3.setCell ⟨Q, 0, none⟩ v') (l ++ m) b ∧ Below lo w (w3.setCell ⟨Q, 0, none⟩ v') ∧ (∀ g, K g → (w3.setCell ⟨Q, 0, none⟩ v').heap[g]? = w.heap[g]?) ∧ w.heap.size ≤ (w3.setCell ⟨Q, 0, none⟩ v').heap.size ∧ (∃ a q c, v' = .slice a q c) := by
  have hQ := (Array.getElem?_eq_some_iff.1 h1).1
  have e1 : (w.setCell ⟨Q, 1, none⟩ (.bool b)).heap[Q]? = some (.cells #[v, .bool b] 76 (0, 0)) := by
    rw [heap_setCell_same _ _ _ _ _ _ h1]
    rfl
  have hsame : ∀ g, g ≠ Q → (w.setCell ⟨Q, 1, none⟩ (.bool b)).heap[g]? = w.heap[g]? := fun g hg => Below.heap_setCell _ _ _ g hg
  have own : ∀ {lo3 : Nat} {u : Value} {t : List UInt8}, OwnB w lo3 u t → (∀ g, u.ownBlock = some g → g ≠ Q) → OwnB (w.setCell ⟨Q, 1, none⟩ (.bool b)) lo3 u t := fun hu hne => by
    obtain ⟨k0, k1⟩ := hu
    refine ⟨k0, ?_⟩
    rcases k1 with k1 | ⟨g, cap, cur, rfl, hlo, hg, k2⟩
    · exact .inl k1
    · exact .inr ⟨g, cap, cur, rfl, hlo, (hsame g (hne g rfl)).trans hg, k2⟩
  have hsz : (w.setCell ⟨Q, 1, none⟩ (.bool b)).heap.size = w.heap.size := by simp [World.setCell]
  obtain ⟨v', w3, hrun, o3, b3, s3, k3⟩ := add_bytes lo lo2 v x l m (w.setCell ⟨Q, 1, none⟩ (.bool b)) (own h2 (fun g hg => (h3 g hg).1)) (own hx hxQ) (by rw [hsz]; exact h6) hn
  have hQ3 := k3 Q (by rw [hsz]; exact hQ) (fun e => (h3 Q e).1 rfl)
  have e3 : w3.heap[Q]? = some (.cells #[v, .bool b] 76 (0, 0)) := hQ3.1.trans e1
  have e4 : (w3.setCell ⟨Q, 0, none⟩ v').heap[Q]? = some (.cells #[v', .bool b] 76 (0, 0)) := by
    rw [heap_setCell_same _ _ _ _ _ _ e3]
    rfl
  have hs4 : ∀ g, g ≠ Q → (w3.setCell ⟨Q, 0, none⟩ v').heap[g]? = w3.heap[g]? := fun g hg => Below.heap_setCell _ _ _ g hg
  have hz4 : (w3.setCell ⟨Q, 0, none⟩ v').heap.size = w3.heap.size := by simp [World.setCell]
  have bl : Below lo w (w3.setCell ⟨Q, 0, none⟩ v') := (((Below.refl lo w).setCell (p := ⟨Q, 1, none⟩) h5 _).trans b3).setCell (p := ⟨Q, 0, none⟩) h5 _
  have hw : ∀ g, K g → (w3.setCell ⟨Q, 0, none⟩ v').heap[g]? = w.heap[g]? := fun g hg => by
    obtain ⟨j1, j2⟩ := h4 g hg
    rw [hs4 g j1, (k3 g (by rw [hsz]; exact j2) (fun e => (h3 g e).2 hg)).1, hsame g j1]
  refine ⟨v', w3, hrun, (by simp [World.cell?, e3]), (by simp [World.frozen?, e3]), ⟨v', e4, ?_, fun g hg => ⟨fun e => hQ3.2 (by rw [← e]; exact hg), fun hk => ?_⟩, fun g hg => ⟨(h4 g hg).1, ?_⟩, h5, ?_⟩, bl, hw, ?_, ?_⟩
  · obtain ⟨k0, k1⟩ := o3
    refine ⟨k0, ?_⟩
    rcases k1 with k1 | ⟨g, cap, cur, rfl, hlo, hg, k2⟩
    · exact .inl k1
    · exact .inr ⟨g, cap, cur, rfl, hlo, (hs4 g (fun e => hQ3.2 (by rw [← e]; rfl))).trans hg, k2⟩
  · obtain ⟨j1, j2⟩ := h4 g hk
    exact (k3 g (by rw [hsz]; exact j2) (fun e => (h3 g e).2 hk)).2 hg
  · rw [hz4]; have := (h4 g hg).2; omega
  · rw [hz4]; omega
  · rw [hz4]; omega
  · obtain ⟨a, c, e⟩ := o3.form rfl
    exact ⟨a, _, c, e⟩

theorem impl_packNumX (x : Int) (w : World) : Calls Try.prog 9 #[.int .i64 x] w fun e w' => GivesB w (packX x) e w' := by
  by_cases hf : Formed x
  · exact impl_packNum x w (by unfold Formed at hf; omega)
  · by_cases h1 : x < -4611686018427387904
    · go_enter Try.func9, Try.ntmps9
      go_wp2_with fail
      go_ret
      exact ⟨_, rfl, by rw [packX_no hf]; exact ownB_new _ _ (Nat.le_refl _), by repeat (first | exact Below.refl _ _ | apply Below.drew | refine Below.alloc ?_ (by simp <;> omega) _ | refine Below.setCell ?_ (by simp <;> omega) _)⟩
    · have h2 : 4611686018427387904 ≤ x := by unfold Formed at hf; omega
      go_enter Try.func9, Try.ntmps9
      go_wp2_with fail
      go_ret
      exact ⟨_, rfl, by rw [packX_no hf]; exact ownB_new _ _ (Nat.le_refl _), by repeat (first | exact Below.refl _ _ | apply Below.drew | refine Below.alloc ?_ (by simp <;> omega) _ | refine Below.setCell ?_ (by simp <;> omega) _)⟩

def PutR (K : Nat → Prop) (lo Q : Nat) (w : World) (l : List UInt8) (ok : Bool) (xs : List Int) (n : Nat) (iv : Value) (wr : World) : Prop :=
  ∃ k : Nat, k ≤ n ∧ iv = .int .i64 k ∧ PkAt K lo Q wr (l ++ packB (xs.take k)) (ok && allF (xs.take k)) ∧ Below lo w wr ∧ (∀ g, K g → wr.heap[g]? = w.heap[g]?) ∧ w.heap.size ≤ wr.heap.size
/-- What a put leaves. -/
def GivesPut (K : Nat → Prop) (lo Q : Nat) (w : World) (l : List UInt8) (ok : Bool) (e : Ending) (w' : World) : Prop :=
  e = .returned (.tuple #[]) ∧ PkAt K lo Q w' l ok ∧ Below lo w w' ∧ (∀ g, K g → w'.heap[g]? = w.heap[g]?) ∧ w.heap.size ≤ w'.heap.size
set_option maxRecDepth 100000 in
set_option maxHeartbeats 2000000 in
theorem put_any (K : Nat → Prop) (lo Q g n : Nat) (l : List UInt8) (ok : Bool) (xs : List Int) (w : World) (h : PkAt K lo Q w l ok) (hg : K g) (hn : xs.length = n) (hn9 : n ≤ 1000)
    (hc : ∀ i x, xs[i]? = some x → w.cell? ⟨g, i, none⟩ = some (.int .i64 x)) (hlen : l.length ≤ 1000000) :
    Calls Try.prog 37 #[.pointer (some ⟨Q, 0, none⟩), .slice (some ⟨g, 0, none⟩) n n] w fun e w' => GivesPut K lo Q w (l ++ packB xs) (ok && allF xs) e w' := by
  have HH : Hid (PkAt K lo Q w l ok) := h
  have HC : Hid (∀ i x, xs[i]? = some x → w.cell? ⟨g, i, none⟩ = some (.int .i64 x)) := hc
  have HN : Hid (xs.length = n) := hn
  clear h hc hn
  go_enter Try.func37, Try.ntmps37
  go_wp2_with fail
  go_loopw [9] (fun iv wr => PutR K lo Q w l ok xs n iv wr) (fun iv _ => n - (intOf iv).toNat)
  case atStart => exact ⟨0, Nat.zero_le _, rfl, by simpa [packB, allF] using HH.out, Below.refl _ _, fun _ _ => rfl, Nat.le_refl _⟩
  case round =>
    obtain ⟨k, hk, rfl, hp, hb, hkk, hs⟩ := hrel
    have HB : Hid (Below lo w wr) := hb
    have HK : Hid (∀ g, K g → wr.heap[g]? = w.heap[g]?) := hkk
    have HS : Hid (w.heap.size ≤ wr.heap.size) := hs
    have HP : Hid (PkAt K lo Q wr (l ++ packB (xs.take k)) (ok && allF (xs.take k))) := hp
    clear hp hb hkk hs
    by_cases hlt : (k : Int) < (n : Int)
    · have hkn : k < n := by omega
      obtain ⟨x, HXX⟩ : ∃ x, Hid (xs[k]? = some x) := ⟨_, List.getElem?_eq_getElem (by rw [HN.out]; exact hkn)⟩
      have q0 : wr.cell? ⟨g, k, none⟩ = some (.int .i64 x) := (cell_sameP (HK.out g hg) _).trans (HC.out k x HXX.out)
      go_wp2_with fail
      refine (impl_packNumX x _).mono ?_
      rintro e w1 ⟨v1, rfl, o1, b1⟩
      obtain ⟨L0, HL0⟩ : ∃ z, Hid (l ++ packB (xs.take k) = z) := ⟨_, rfl⟩
      obtain ⟨ok0, HOK⟩ : ∃ z, Hid ((ok && allF (xs.take k)) = z) := ⟨_, rfl⟩
      have hp9 := HP.out
      rw [HL0.out, HOK.out] at hp9
      obtain ⟨v, p1, p2, p3, p4, p5, p6⟩ := hp9
      have hs1 := b1.size
      have hQ := (Array.getElem?_eq_some_iff.1 p1).1
      have P1 : Hid (w1.heap[Q]? = some (.cells #[v, .bool ok0] 76 (0, 0))) := (b1.block Q hQ).trans p1
      obtain ⟨pl, HPL⟩ : ∃ z, Hid ((packX x).length = z) := ⟨_, rfl⟩
      obtain ⟨pa, pc, e9⟩ := o1.form HPL.out
      subst e9
      have hbnd : L0.length + (packX x).length ≤ 140737488355328 := by
        have h1 := packX_len x
        have h2 := packB_len (xs.take k)
        have h3 := HN.out
        rw [← HL0.out, List.length_append]
        rw [List.length_take] at h2
        omega
      have HST := fun b => PkAt.step (b := b) P1.out (p2.keep b1) p3 (fun g' hg' => ⟨(p4 g' hg').1, Nat.lt_of_lt_of_le (p4 g' hg').2 hs1⟩) p5 (Nat.le_trans p6 hs1) o1 (fun g' hg' => by have := (o1.lt g' hg').1; omega) hbnd
      have B1 : Hid (Below lo w w1) := HB.out.trans (b1.mono (Nat.le_trans p6 (Nat.le_refl _)))
      have K1 : Hid (∀ g', K g' → w1.heap[g']? = w.heap[g']?) := fun g' hg' => (b1.block g' (p4 g' hg').2).trans (HK.out g' hg')
      have S1 : Hid (w.heap.size ≤ w1.heap.size) := Nat.le_trans HS.out hs1
      have c0 : w1.cell? ⟨Q, 0, none⟩ = some v := by simp [World.cell?, P1.out]
      have c1 : w1.cell? ⟨Q, 1, none⟩ = some (.bool ok0) := by simp [World.cell?, P1.out]
      have f1 : w1.frozen? ⟨Q, 1, none⟩ = false := by simp [World.frozen?, P1.out]
      have HEND : Hid (∀ b w9, b = (ok0 && decide (Formed x)) → PkAt K lo Q w9 (L0 ++ packX x) b → Below lo w1 w9 → (∀ g', K g' → w9.heap[g']? = w1.heap[g']?) → w1.heap.size ≤ w9.heap.size → PutR K lo Q w l ok xs n (.int .i64 ((k : Int) + 1)) w9) := fun b w9 e1 e2 e3 e4 e5 =>
        ⟨k + 1, by omega, by simp, by rw [packB_next HXX.out, allF_next HXX.out, ← List.append_assoc, HL0.out, ← Bool.and_assoc, HOK.out, ← e1]; exact e2, B1.out.trans e3, fun g' hg' => (e4 g' hg').trans (K1.out g' hg'), Nat.le_trans S1.out e5⟩
      clear p1 p2 p3 p4 p5 p6 o1 b1 hs1 q0 hbnd
      have hdf : decide (0 < pl) = decide (Formed x) := by
        have h9 := packX_pos (x := x)
        rw [HPL.out] at h9
        simp [h9]
      cases ok0 with
      | true =>
        obtain ⟨v', w3, hrun, d0, f0, hpk, hbel, hK4, hsz, va, vq, vc, e9⟩ := HST (decide (0 < pl))
        subst e9
        have HR : Hid (PutR K lo Q w l ok xs n (.int .i64 ((k : Int) + 1)) (w3.setCell ⟨Q, 0, none⟩ (.slice va vq vc))) := HEND.out _ _ (by simp [hdf]) hpk hbel hK4 hsz
        clear HST HEND hpk hbel hK4 hsz hdf
        go_wp2_with (at_builtin; refine wpList_appendR rfl _ _ 22 rfl rfl rfl hrun ?_)
        go_roundw
        case rel => exact HR.out
        case measure => simp [intOf]; omega
      | false =>
        obtain ⟨v', w3, hrun, d0, f0, hpk, hbel, hK4, hsz, va, vq, vc, e9⟩ := HST false
        subst e9
        have HR : Hid (PutR K lo Q w l ok xs n (.int .i64 ((k : Int) + 1)) (w3.setCell ⟨Q, 0, none⟩ (.slice va vq vc))) := HEND.out false _ (by simp) hpk hbel hK4 hsz
        clear HST HEND hpk hbel hK4 hsz hdf
        go_wp2_with (at_builtin; refine wpList_appendR rfl _ _ 22 rfl rfl rfl hrun ?_)
        go_roundw
        case rel => exact HR.out
        case measure => simp [intOf]; omega
    · have hkn : k = n := by omega
      subst hkn
      have hall := HP.out
      rw [← HN.out, List.take_length] at hall
      have HA : Hid (PkAt K lo Q wr (l ++ packB xs) (ok && allF xs)) := hall
      clear hall
      go_wp2_with fail
      refine ⟨rfl, _, results_none rfl _ _ _, rfl, HA.out, HB.out, HK.out, HS.out⟩
end Go.Proofs.Ytgjojajodkagbaa
