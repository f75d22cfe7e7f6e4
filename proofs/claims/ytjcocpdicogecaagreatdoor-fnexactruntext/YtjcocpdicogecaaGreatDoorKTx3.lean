/- errors.Is, of an error and the same one, and of none. A text read by the program, line by line. Code read from a text, by the program. -/
import Derived.Test.YtjcocpdicogecaaGreatDoorKTx1
import Derived.WalkKit
import Derived.LaidEql
import Derived.Stop.Asserts
import Derived.RowKitTokens
import Derived.Test.YtjcocpdicogecaaGreatDoorTxRs2K
import Derived.Test.YtjcocpdicogecaaGreatDoorTxPmK
import Derived.Lib.DecodeN
import Derived.Lib.MapLaws
import Derived.Lib.OthersKept
import Derived.Test.YtjcocpdicogecaaGreatDoorMaOkK
namespace Go.Proofs.YtjcocpdicogecaaGreatDoor
open Go.ChangeShapes Go.WideShapes Go.ChangeAt Go.RowKit Go.Extern.Stop Go.Stop Go.Extern
set_option linter.unusedVariables false

theorem isTypeOf (v : Value) (w : World) : (Extern.ReflectliteType.typeOf #[.iface 156 v]).run Tryz.prog w = .ok (.iface 97 (.agg #[.pointer (some ⟨12, 156, none⟩)])) w := by kernel_rfl
theorem isComparable (w : World) : ((Extern.ReflectliteType.method fun t => do Rtype.noPackHeld "Comparable" t; (fun a => Value.bool a.comparable) <$> typeInfo t) #[.agg #[.pointer (some ⟨12, 156, none⟩)]]).run Tryz.prog w = .ok (.bool true) w := by kernel_rfl
theorem isMethodComparable (v : Value) (w : World) : (Go.method 307 97 v "Comparable").run Tryz.prog w = .ok (152, v) w := by kernel_rfl
theorem isComp : (Tryz.prog.info? 156).map (·.comparable) = some true := by kernel_rfl
theorem isSize : (Tryz.prog.info? 158).map (·.size) = some 1 := by kernel_rfl

set_option maxRecDepth 100000 in
theorem is_same (a : Addr) (w : World) :
    Calls Tryz.prog 19 #[.iface 156 (.pointer (some a)), .iface 156 (.pointer (some a))] w fun e w' => e = .returned (.bool true) ∧ w' = w := by
  obtain ⟨i, hi, hcmp⟩ := Option.map_eq_some_iff.1 isComp
  obtain ⟨j, hj, hjs⟩ := Option.map_eq_some_iff.1 isSize
  have h8 := @run_callFunc_extern Tryz.prog 32 _ Extern.ReflectliteType.typeOf Tryz.func32 (by kernel_rfl) (by kernel_rfl) (by kernel_rfl) (by kernel_rfl)
  have h32 := @run_callFunc_extern Tryz.prog 152 _ (Extern.ReflectliteType.method fun t => do Rtype.noPackHeld "Comparable" t; pure (.bool (← typeInfo t).comparable)) Tryz.func152 (by kernel_rfl) (by kernel_rfl) (by kernel_rfl) (by kernel_rfl)
  have tT := isTypeOf
  have cT := isComparable
  have mR := isMethodComparable
  have heq := run_eql_iface_ptr_same (P := Tryz.prog) w a Tryz.underlying41 Tryz.underlying156 hi hcmp hj
  go_enter Tryz.func19, Tryz.ntmps19
  go_wp2
  refine wp_loop_rounds 1 ?_
  rw [rounds_succ]
  go_wp2
  go_ret
  exact ⟨rfl, rfl⟩
theorem is_nil (b : Addr) (w : World) :
    Calls Tryz.prog 19 #[.nilIface, .iface 156 (.pointer (some b))] w fun e w' => e = .returned (.bool false) ∧ w' = w := by
  have hn := run_eql_iface_nil_left (P := Tryz.prog) w 156 (.pointer (some b)) Tryz.underlying41
  go_enter Tryz.func19, Tryz.ntmps19
  go_wp2
  go_ret
  exact ⟨rfl, rfl⟩
end Go.Proofs.YtjcocpdicogecaaGreatDoor

namespace Go.Proofs.YtjcocpdicogecaaGreatDoor
open Go.ChangeShapes Go.WideShapes Go.ChangeAt Go.RowKit
set_option linter.unusedVariables false

theorem get_bs {t : List UInt8} {j : Nat} (hj : j < t.length) : t[j]? = some ((bs t).get! j) := by
  have h1 : (bs t).get! j = t[j] := by
    show (bs t).data[j]! = _
    simp [bs, hj]
  rw [h1]
  exact List.getElem?_eq_getElem hj
theorem get_ten {t : List UInt8} {j : Nat} (h : t[j]? = some 10) : ((bs t).get! j).toNat = 10 := by
  have hj := (List.getElem?_eq_some_iff.1 h).1
  have h1 := get_bs hj
  rw [h] at h1
  simp only [Option.some.injEq] at h1
  rw [← h1]
  rfl
theorem ten_get {t : List UInt8} {j : Nat} (hj : j < t.length) (h : ((bs t).get! j).toNat = 10) : t[j]? = some 10 := by
  rw [get_bs hj]
  have : (bs t).get! j = 10 := UInt8.toNat_inj.1 (by rw [h]; rfl)
  rw [this]
set_option maxRecDepth 100000 in
theorem dec10 (t : List UInt8) (k : Nat) (hk : k < t.length) : ∃ r n, Utf8.decode (bs t) k = (r, n) ∧ 1 ≤ n ∧ k + n ≤ t.length ∧ (r = 10 → t[k]? = some 10 ∧ n = 1) ∧ (r ≠ 10 → ∀ j, k ≤ j → j < k + n → t[j]? ≠ some 10) := by
  have hs : (bs t).size = t.length := bs_size t
  have h0 : ∀ j, t[j]? = some 10 → ((bs t).get! j).toNat = 10 := fun j => get_ten
  have h1 := @ten_get t k hk
  rw [Lib.decode_at]
  have h9 : ∀ n b1 b2 b3, Lib.decodeN n 10 b1 b2 b3 = (10, 1) := fun n b1 b2 b3 => by unfold Lib.decodeN; rw [if_pos (by omega)]
  have e0 := h0 k
  have e1 := h0 (k + 1)
  have e2 := h0 (k + 2)
  have e3 := h0 (k + 3)
  rw [hs]
  generalize ((bs t).get! k).toNat = b0 at *
  generalize ((bs t).get! (k + 1)).toNat = b1 at *
  generalize ((bs t).get! (k + 2)).toNat = b2 at *
  generalize ((bs t).get! (k + 3)).toNat = b3 at *
  have hd := Lib.decodeN_shape (t.length - k) b0 b1 b2 b3
  rcases hd with ⟨c, e⟩ | ⟨c1, c2, c3, cv, e⟩ | ⟨c1, c2, c3, c4, cv, cs, e⟩ | ⟨c1, c2, c3, c4, c5, cv, cw, e⟩ | e
  · refine ⟨b0, 1, e, Nat.le_refl _, hk, fun h => ⟨h1 h, rfl⟩, fun h j hj1 hj2 hj => ?_⟩
    obtain rfl : j = k := by omega
    exact h (e0 hj)
  · refine ⟨_, 2, e, by omega, by omega, fun h => by omega, fun h j hj1 hj2 hj => ?_⟩
    have hc : j = k ∨ j = k + 1 := by omega
    rcases hc with rfl | rfl
    · have := e0 hj; omega
    · have := e1 hj; omega
  · refine ⟨_, 3, e, by omega, by omega, fun h => by omega, fun h j hj1 hj2 hj => ?_⟩
    have hc : j = k ∨ j = k + 1 ∨ j = k + 2 := by omega
    rcases hc with rfl | rfl | rfl
    · have := e0 hj; omega
    · have := e1 hj; omega
    · have := e2 hj; omega
  · refine ⟨_, 4, e, by omega, by omega, fun h => by omega, fun h j hj1 hj2 hj => ?_⟩
    have hc : j = k ∨ j = k + 1 ∨ j = k + 2 ∨ j = k + 3 := by omega
    rcases hc with rfl | rfl | rfl | rfl
    · have := e0 hj; omega
    · have := e1 hj; omega
    · have := e2 hj; omega
    · have := e3 hj; omega
  · refine ⟨65533, 1, e, Nat.le_refl _, hk, fun h => by omega, fun h j hj1 hj2 hj => ?_⟩
    obtain rfl : j = k := by omega
    have h2 := e0 hj
    subst h2
    rw [h9] at e
    simp at e
theorem joinX_len (l : List InsD) : l.length ≤ (joinX l).length := by
  induction l with
  | nil => simp
  | cons x l ih => rw [joinX_cons]; simp; omega
theorem PM.few {t : List UInt8} {k f : Nat} {l0 : List InsD} (h : PM t k f l0) : l0.length ≤ t.length := by
  have h1 := joinX_len l0
  have h2 := congrArg List.length h.done
  rw [List.length_append] at h2
  omega
theorem OwnSteps.sameO {w w' : World} {lo : Nat} {v : Value} {l : List InsD} (h : OwnSteps w lo v l) (hs : ∀ g, v.ownBlock = some g → w'.heap[g]? = w.heap[g]?) : OwnSteps w' lo v l := by
  refine ⟨h.1, ?_⟩
  rcases h.2 with h | ⟨g, cap, cur, rfl, hl, hg, h1⟩
  · exact .inl h
  · exact .inr ⟨g, cap, cur, rfl, hl, (hs g rfl).trans hg, h1⟩
theorem OwnSteps.noIter {w : World} {lo g : Nat} {v : Value} {l : List InsD} (h : OwnSteps w lo v l) {s : ByteArray} {p : Nat} (hg : w.heap[g]? = some (.stringIter s p)) : v.ownBlock ≠ some g := by
  rcases h.2 with ⟨rfl, _⟩ | ⟨g', cap, cur, rfl, hl, hg', _⟩
  · intro e; cases e
  · intro e
    simp [Value.ownBlock] at e
    subst e
    rw [hg] at hg'
    cases hg'
/-- The reading by runes: the iterator's block besides. -/
structure RM (t : List UInt8) (w : World) (S0 : Nat) (k f : Nat) (l0 : List InsD) (ov : Value) (wr : World) : Prop where
  pmem : PMem t w S0 k f l0 ov wr
  it : wr.heap[S0 + 1]? = some (.stringIter (bs t) k)
theorem RM.move {t : List UInt8} {w wr : World} {S0 k f : Nat} {l0 : List InsD} {ov : Value} (h : RM t w S0 k f l0 ov wr) {k' : Nat} (hp : PM t k' f l0) : RM t w S0 k' f l0 ov (wr.iterAt (S0 + 1) (bs t) k') := by
  refine ⟨⟨hp, h.pmem.own.sameO (fun g hg => Lib.iterAt_other wr (S0 + 1) g _ _ (fun e => h.pmem.own.noIter h.it (by rw [hg, e]))), Lib.below_iterAt h.pmem.below (Nat.le_succ _) _ _, by rw [Lib.iterAt_size]; exact h.pmem.lt⟩, Lib.iterAt_heap wr (S0 + 1) _ k k' h.it⟩
theorem RM.keep {t : List UInt8} {w wr wr' : World} {S0 k f : Nat} {l0 : List InsD} {ov : Value} (h : RM t w S0 k f l0 ov wr) (hb : Below wr.heap.size wr wr') : RM t w S0 k f l0 ov wr' :=
  ⟨h.pmem.keep hb, (hb.block _ (Array.getElem?_eq_some_iff.1 h.it).1).trans h.it⟩
def RunesRel (t : List UInt8) (w : World) (S0 : Nat) (ov fv : Value) (wr : World) : Prop := ∃ (k f : Nat) (l0 : List InsD) (va : Option Addr) (vn vc : Nat), fv = .int .i64 f ∧ ov = .slice va vn vc ∧ l0.length = vn ∧ RM t w S0 k f l0 (.slice va vn vc) wr
def GivesLst (EP : Addr) (t : List UInt8) (w : World) (e : Ending) (w' : World) : Prop := ∃ v ev, e = .returned (.tuple #[v, ev]) ∧ ((ev = .nilIface ∧ ∃ l0, joinX l0 = t ∧ StepsIn l0 ∧ OwnSteps w' w.heap.size v l0) ∨ (ev = EV EP ∧ v = .slice none 0 0 ∧ parseB t = false ∧ parseOf t = [])) ∧ Below w.heap.size w w'
theorem list_no {EP : Addr} {t : List UInt8} {w wr : World} {S0 k f : Nat} {l0 : List InsD} {ov : Value} (h : RM t w S0 k f l0 ov wr) (hS : w.heap.size = S0) (hn : parseB t = false ∧ parseOf t = []) : GivesLst EP t w (.returned (.tuple #[.slice none 0 0, EV EP])) wr :=
  ⟨_, _, rfl, .inr ⟨rfl, rfl, hn.1, hn.2⟩, by rw [hS]; exact h.pmem.below⟩
theorem list_yes {EP : Addr} {t : List UInt8} {w wr : World} {S0 f : Nat} {l0 : List InsD} {ov : Value} (h : RM t w S0 t.length f l0 ov wr) (hS : w.heap.size = S0) (hf : ¬ f < t.length) : GivesLst EP t w (.returned (.tuple #[ov, .nilIface])) wr :=
  ⟨_, _, rfl, .inl ⟨rfl, l0, h.pmem.pm.all hf, h.pmem.pm.says, by rw [hS]; exact h.pmem.own⟩, by rw [hS]; exact h.pmem.below⟩
theorem rrel_next {t q : List UInt8} {w wb : World} {S0 k f : Nat} {l0 : List InsD} {v' : Value} {x : InsD} (h0 : PM t k f l0) (hc : t[k]? = some 10) (hq : (t.drop f).take (k - f) = q) (hl : IsLine q x) (ho : OwnSteps wb S0 v' (l0 ++ [x])) (hb : Below S0 w wb) (hlt : S0 < wb.heap.size) (hi : wb.heap[S0 + 1]? = some (.stringIter (bs t) (k + 1))) : RunesRel t w S0 v' (.int .i64 ((k : Int) + 1)) wb := by
  obtain ⟨a, c, rfl⟩ := ho.formP
  exact ⟨k + 1, k + 1, l0 ++ [x], a, _, c, num_up k, rfl, rfl, ⟨⟨h0.next hc hq hl, ho, hb, hlt⟩, hi⟩⟩
theorem add_iter {w wr : World} {S0 : Nat} {t : ByteArray} {k : Nat} {l0 : List InsD} {ov : Value} {x0 x1 x2 x3 x4 : Int} (hb : Below S0 w wr) (ho : OwnSteps wr S0 ov l0) (hi : wr.heap[S0 + 1]? = some (.stringIter t k)) (hlt : S0 < wr.heap.size) (hl : l0.length ≤ 1048576) :
    ∃ v' w', (∀ ty, (Builtin.append_ #[22, 22] ty #[ov, .slice (some ⟨wr.heap.size + 1, 0, none⟩) 1 1]).run Tryz.prog ((wr.alloc (.cells #[.int .i64 x0, .int .i64 x1, .int .i64 x2, .int .i64 x3, .int .i64 x4] 36)).alloc (.cells #[.int .i64 x0, .int .i64 x1, .int .i64 x2, .int .i64 x3, .int .i64 x4] 36)) = .ok v' w') ∧ OwnSteps w' S0 v' (l0 ++ [⟨x0, x1, x2, x3, x4⟩]) ∧ Below S0 w w' ∧ S0 < w'.heap.size ∧ w'.heap[S0 + 1]? = some (.stringIter t k) := by
  obtain ⟨wb, hwb⟩ : ∃ W, wr.alloc (.cells #[.int .i64 x0, .int .i64 x1, .int .i64 x2, .int .i64 x3, .int .i64 x4] 36) = W := ⟨_, rfl⟩
  have e0 : wb.heap.size = wr.heap.size + 1 := by rw [← hwb]; simp
  have ha : Below wr.heap.size wr wb := by rw [← hwb]; exact Bel.alloc _ _
  rw [hwb, ← e0]
  have hc := Bel.alloc wb (.cells #[.int .i64 x0, .int .i64 x1, .int .i64 x2, .int .i64 x3, .int .i64 x4] 36)
  have ho2 := (ho.keep ha).keep hc
  have hlt2 : S0 < (wb.alloc (.cells #[.int .i64 x0, .int .i64 x1, .int .i64 x2, .int .i64 x3, .int .i64 x4] 36)).heap.size := Nat.lt_of_lt_of_le hlt (Nat.le_trans ha.size hc.size)
  have hi2 := (hc.block _ (Nat.lt_of_lt_of_le (Array.getElem?_eq_some_iff.1 hi).1 ha.size)).trans ((ha.block _ (Array.getElem?_eq_some_iff.1 hi).1).trans hi)
  obtain ⟨v', w', hrun, ho3, hg, _⟩ := add_steps S0 _ _ l0 [⟨x0, x1, x2, x3, x4⟩] _ ho2 (Nat.le_of_lt hlt2) (pm_one wb x0 x1 x2 x3 x4) (by simp; omega) 22
  have hb3 := ho2.under (Nat.le_of_lt hlt2) hg
  have hbb : Below S0 w (wb.alloc (.cells #[.int .i64 x0, .int .i64 x1, .int .i64 x2, .int .i64 x3, .int .i64 x4] 36)) := (hb.trans (ha.mono (Nat.le_of_lt hlt))).trans (hc.mono (Nat.le_trans (Nat.le_of_lt hlt) ha.size))
  exact ⟨v', w', fun ty => hrun, ho3, hbb.trans hb3, Nat.lt_of_lt_of_le hlt2 hb3.size, (hg.block _ (Array.getElem?_eq_some_iff.1 hi2).1 (fun e => ho2.noIter hi2 e.symm)).trans hi2⟩
theorem rune_ne {r : Nat} (h : ¬ r = 10) : ((r : Int) == 10) = false := by rw [beq_eq_false_iff_ne]; omega
theorem meas_it {m k k' : Nat} {wr wr' : World} {S : Nat} {s : ByteArray} (h : wr.heap[S]? = some (.stringIter s k)) (h' : wr'.heap[S]? = some (.stringIter s k')) (hk : k < k') (hm : k < m) : m - wr'.iterPos S < m - wr.iterPos S := by
  have e1 : wr.iterPos S = k := by simp [World.iterPos, h]
  have e2 : wr'.iterPos S = k' := by simp [World.iterPos, h']
  omega

set_option maxRecDepth 100000 in
set_option maxHeartbeats 4000000 in
theorem readSteps_any (EP : Addr) (t : List UInt8) (w : World) (hl : t.length ≤ 1048576) (hL : Libs w EP) :
    Calls Tryz.prog 18 #[.string (bs t)] w fun e w' => GivesLst EP t w e w' := by
  have HL : Hid (Libs w EP) := hL
  obtain ⟨m, HM⟩ : ∃ m, Hid (t.length = m) := ⟨_, rfl⟩
  have hsz : (bs t).size = m := by rw [bs_size, HM.out]
  have HLM : Hid (t.length ≤ 1048576) := hl
  have hm : m ≤ 1048576 := by rw [← HM.out]; exact hl
  clear hl hL
  obtain ⟨S0, HS0⟩ : ∃ S, Hid (w.heap.size = S) := ⟨_, rfl⟩
  go_enter Tryz.func18, Tryz.ntmps18
  go_wp2_with fail
  obtain ⟨w1, hw1⟩ : ∃ W, (w.alloc (.cells #[] 36)).iter (bs t) 0 = W := ⟨_, rfl⟩
  have HR1 : Hid (RM t w S0 0 0 [] (.slice (some ⟨S0, 0, none⟩) 0 0) w1) := by
    have e0 : (w.alloc (.cells #[] 36)).heap.size = S0 + 1 := by simp [HS0.out]
    have hb : Below (w.alloc (.cells #[] 36)).heap.size (w.alloc (.cells #[] 36)) w1 := by rw [← hw1]; exact Bel.alloc _ _
    have h5 := World.iter_heap (w.alloc (.cells #[] 36)) (bs t) 0
    rw [hw1, e0] at h5
    have h0 : OwnSteps (w.alloc (.cells #[] 36)) S0 (.slice (some ⟨S0, 0, none⟩) 0 0) [] := by rw [← HS0.out]; exact ownSteps_new (World.alloc_heap_new w _) (Nat.le_refl _)
    refine ⟨⟨PM.start t, h0.keep hb, ?_, ?_⟩, h5⟩
    · have h6 := (Bel.alloc w (.cells #[] 36)).trans (hb.mono (by simp))
      rw [← HS0.out]
      exact h6
    · have := hb.size; rw [e0] at this; omega
  try rw [hw1]
  try rw [HS0.out]
  clear hw1
  go_loopw [4, 5] (fun ov fv wr => RunesRel t w S0 ov fv wr) (fun _ _ wr => m - wr.iterPos (S0 + 1))
  case atStart => exact ⟨0, 0, [], _, _, _, rfl, rfl, rfl, HR1.out⟩
  case round =>
    obtain ⟨k, f, l0, va, vn, vc, rfl, rfl, hvn, hr⟩ := hrel
    have HR : Hid (RM t w S0 k f l0 (.slice va vn vc) wr) := hr
    have HVN : Hid (l0.length = vn) := hvn
    have HIT : Hid (wr.heap[S0 + 1]? = some (.stringIter (bs t) k)) := hr.it
    clear hr hvn
    by_cases hlt : k < m
    · obtain ⟨r, n, hdec, hn1, hnl, h10, hno⟩ := dec10 t k (by rw [HM.out]; exact hlt)
      have HKM : Hid (k < m) := hlt
      have hnext : ∀ ty, (Instr.next (.pointer (some ⟨S0 + 1, 0, none⟩)) true ty).run Tryz.prog wr = .ok (.tuple #[.bool true, .int .i64 k, .int .i32 (r : Int)]) (wr.iterAt (S0 + 1) (bs t) (k + n)) := fun ty => by
        have h9 := Lib.run_next_any_at (P := Tryz.prog) wr (S0 + 1) (bs t) k ty HIT.out (by rw [hsz]; exact hlt)
        rw [hdec] at h9
        exact h9
      by_cases hc : r = 10
      · obtain ⟨hc1, rfl⟩ := h10 hc
        subst hc
        have HC : Hid (t[k]? = some 10) := hc1
        obtain ⟨w2, hw2⟩ : ∃ W, wr.iterAt (S0 + 1) (bs t) (k + 1) = W := ⟨_, rfl⟩
        have HP : Hid (PM t k f l0) := HR.out.pmem.pm
        obtain ⟨q, HQ⟩ : ∃ q, Hid ((t.drop f).take (k - f) = q) := ⟨_, rfl⟩
        have hcut : (bs t).extract f k = bs q := by rw [bs_cut, HQ.out]
        have hfk : (f : Int) ≤ (k : Int) := Int.ofNat_le.2 HP.out.fk
        have hkmi : (k : Int) ≤ (m : Int) := Int.ofNat_le.2 (Nat.le_of_lt hlt)
        have HQL : Hid (q.length ≤ 1048576) := Nat.le_trans (PM.qlen HQ.out) HLM.out
        have hwk : wrap64 ((k : Int) + 1) = (k : Int) + 1 := by unfold wrap64; omega
        have HB2 : Hid (Below S0 w w2) := by show Below _ _ _; rw [← hw2]; exact Lib.below_iterAt HR.out.pmem.below (Nat.le_succ _) _ _
        have HO2 : Hid (OwnSteps w2 S0 (.slice va vn vc) l0) := by show OwnSteps _ _ _ _; rw [← hw2]; exact HR.out.pmem.own.sameO (fun g hg => Lib.iterAt_other wr (S0 + 1) g _ _ (fun e => HR.out.pmem.own.noIter HIT.out (by rw [hg, e])))
        have HI2 : Hid (w2.heap[S0 + 1]? = some (.stringIter (bs t) (k + 1))) := by show _ = _; rw [← hw2]; exact Lib.iterAt_heap wr (S0 + 1) _ k (k + 1) HIT.out
        have HLT2 : Hid (S0 < w2.heap.size) := by show _ < _; rw [← hw2, Lib.iterAt_size]; exact HR.out.pmem.lt
        rw [hw2] at hnext
        have h10r : (((10 : Nat) : Int) == 10) = true := by decide
        clear hw2 h10 hno hdec hn1 hnl hlt hc1
        go_wp2_with fail
        try rw [hcut]
        refine (readStep_any EP q _ HQL.out (HL.out.keep (by rw [HS0.out]; exact HB2.out))).mono ?_
        rintro e w3 ⟨⟨x0, x1, x2, x3, x4⟩, ev, rfl, hres, b3⟩
        have HB3 : Hid (Below S0 w w3) := HB2.out.trans (b3.mono (Nat.le_of_lt HLT2.out))
        have HO3 : Hid (OwnSteps w3 S0 (.slice va vn vc) l0) := HO2.out.keep b3
        have HI3 : Hid (w3.heap[S0 + 1]? = some (.stringIter (bs t) (k + 1))) := (b3.block _ (Array.getElem?_eq_some_iff.1 HI2.out).1).trans HI2.out
        have HLT3 : Hid (S0 < w3.heap.size) := Nat.lt_of_lt_of_le HLT2.out b3.size
        clear b3 hnext HB2 HO2 HI2 HLT2
        dsimp only at hres ⊢
        rcases hres with ⟨rfl, hline⟩ | ⟨rfl, hnol⟩
        · have HL9 : Hid (IsLine q ⟨x0, x1, x2, x3, x4⟩) := hline
          clear hline
          obtain ⟨v', w5, hrun, ho5, hb5, hl5, hi5⟩ := add_iter HB3.out HO3.out HI3.out HLT3.out (x0 := x0) (x1 := x1) (x2 := x2) (x3 := x3) (x4 := x4) (Nat.le_trans HP.out.few HLM.out)
          have HRUN : Hid (∀ ty, (Builtin.append_ #[22, 22] ty #[.slice va vn vc, .slice (some ⟨w3.heap.size + 1, 0, none⟩) 1 1]).run Tryz.prog ((w3.alloc (.cells #[.int .i64 x0, .int .i64 x1, .int .i64 x2, .int .i64 x3, .int .i64 x4] 36)).alloc (.cells #[.int .i64 x0, .int .i64 x1, .int .i64 x2, .int .i64 x3, .int .i64 x4] 36)) = .ok v' w5) := hrun
          have HO5 : Hid (OwnSteps w5 S0 v' (l0 ++ [⟨x0, x1, x2, x3, x4⟩])) := ho5
          have HB5 : Hid (Below S0 w w5) := hb5
          have HL5 : Hid (S0 < w5.heap.size) := hl5
          have HI5 : Hid (w5.heap[S0 + 1]? = some (.stringIter (bs t) (k + 1))) := hi5
          clear hrun ho5 hb5 hl5 hi5
          go_wp2_with (at_builtin; refine wpList_appendS _ rfl _ _ 22 22 rfl _ _ _ _ rfl rfl (HRUN.out _) ?_)
          try rw [hwk]
          go_roundw
          case rel => exact rrel_next HP.out HC.out HQ.out HL9.out HO5.out HB5.out HL5.out HI5.out
          case measure => exact meas_it HIT.out HI5.out (Nat.lt_succ_self _) HKM.out
        · have HNO : Hid (parseB t = false ∧ parseOf t = []) := HP.out.no HC.out HQ.out hnol
          clear hnol
          unfold EV
          go_wp2_with fail
          go_ret2
          exact ⟨_, _, rfl, .inr ⟨rfl, rfl, HNO.out.1, HNO.out.2⟩, by rw [HS0.out]; exact HB3.out.trans ((Bel.alloc w3 _).mono (Nat.le_of_lt HLT3.out))⟩
      · have HR2 : Hid (RM t w S0 (k + n) f l0 (.slice va vn vc) (wr.iterAt (S0 + 1) (bs t) (k + n))) := HR.out.move (HR.out.pmem.pm.plains (by omega) hnl (hno hc))
        have HN1 : Hid (k < k + n) := by show _ < _; omega
        have hr10 := rune_ne hc
        obtain ⟨w2, hw2⟩ : ∃ W, wr.iterAt (S0 + 1) (bs t) (k + n) = W := ⟨_, rfl⟩
        rw [hw2] at hnext HR2
        clear hw2 h10 hno hdec hn1 hnl hc hlt
        go_wp2_with fail
        go_roundw
        case rel => exact ⟨k + n, f, l0, va, vn, vc, rfl, rfl, HVN.out, HR2.out⟩
        case measure => exact meas_it HIT.out HR2.out.it HN1.out HKM.out
    · have hnext : ∀ ty, (Instr.next (.pointer (some ⟨S0 + 1, 0, none⟩)) true ty).run Tryz.prog wr = _ := fun ty => Lib.run_next_end_at (P := Tryz.prog) wr (S0 + 1) (bs t) k ty HIT.out (by rw [hsz]; exact hlt)
      have hkm : k = m := by have := HR.out.pmem.pm.kn; rw [HM.out] at this; omega
      subst hkm
      clear hlt
      by_cases hf : f < k
      · have hfi : (f : Int) < (k : Int) := Int.ofNat_lt.2 hf
        have HNO : Hid (parseB t = false ∧ parseOf t = []) := PM.rest (by rw [HM.out]; exact HR.out.pmem.pm) (by rw [HM.out]; exact hf)
        have hEV := (HL.out.keep (by rw [HS0.out]; exact HR.out.pmem.below)).eno
        clear hf
        go_wp2_with fail
        refine wp_region_held_drew (S := fun w' => w'.cell? ⟨0, 0, none⟩ = some (EV EP)) (by kernel_rfl) hEV (fun hHeld => ?_)
        obtain ⟨u1, hu1⟩ : ∃ W, wr.drew = W := ⟨_, rfl⟩
        have HFIN : Hid (GivesLst EP t w (.returned (.tuple #[.slice none 0 0, EV EP])) u1) := by
          show GivesLst _ _ _ _ _
          rw [← hu1]
          exact list_no (HR.out.keep ((Below.refl _ wr).drew)) HS0.out HNO.out
        rw [hu1] at hHeld ⊢
        clear hu1 hEV
        refine wpAnyH_take (i := 0) (oi := { dst := some 40, op := Go.Op.load 41 (Go.Operand.global 0), type := 41, pos := "l17_text.go:127", after := #[{ on := 1, ground := Go.Ground.gcOnly Go.Departure.lateStores }], guard := none }) (v := ?_) rfl (by kernel_rfl) (by kernel_rfl) (by kernel_rfl) (fun _ _ _ h => h) (Or.inl ⟨by rfl, ?_⟩) (by assumption) ?_
        rotate_left
        · intro w hSw
          (try dsimp only at hSw)
          go_simp
          (try with_reducible rfl)
        try simp only [Act.put, List.setIfInBounds_toArray, List.set_cons_zero, List.set_cons_succ]
        refine wpAnyH_take (i := 1) (oi := { dst := some 2, op := Go.Op.assign (Go.Operand.const (Go.Value.slice none 0 0)), type := 22, pos := "l17_text.go:127", after := #[{ on := 0, ground := Go.Ground.textOnly Go.Departure.lateStores }], guard := none }) (v := ?_) rfl (by kernel_rfl) (by kernel_rfl) (by kernel_rfl) (fun _ _ _ h => h) (Or.inl ⟨by rfl, ?_⟩) (by assumption) ?_
        rotate_left
        · intro w hSw
          (try dsimp only at hSw)
          go_simp
          (try with_reducible rfl)
        try simp only [Act.put, List.setIfInBounds_toArray, List.set_cons_zero, List.set_cons_succ]
        refine wpAnyH_take (i := 2) (oi := { dst := some 3, op := Go.Op.assign (Go.Operand.tmp 40), type := 41, pos := "l17_text.go:127", after := #[{ on := 0, ground := Go.Ground.data }, { on := 1, ground := Go.Ground.chain }, { on := 0, ground := Go.Ground.phase }, { on := 1, ground := Go.Ground.phase }], guard := none }) (v := ?_) rfl (by kernel_rfl) (by kernel_rfl) (by kernel_rfl) (fun _ _ _ h => h) (Or.inl ⟨by rfl, ?_⟩) (by assumption) ?_
        rotate_left
        · intro w hSw
          (try dsimp only at hSw)
          go_simp
          (try with_reducible rfl)
        try simp only [Act.put, List.setIfInBounds_toArray, List.set_cons_zero, List.set_cons_succ]
        refine wpAnyH_done (by kernel_rfl) ?_ _
        simp only [Exit.then]
        go_at_K
        go_wp2_with fail
        go_ret2
        exact HFIN.out
      · have hfi : ¬ (f : Int) < (k : Int) := fun h => hf (Int.ofNat_lt.1 h)
        have HNF : Hid (¬ f < t.length) := by show ¬ _; rw [HM.out]; exact hf
        have HRE : Hid (RM t w S0 t.length f l0 (.slice va vn vc) wr) := by show RM _ _ _ _ _ _ _ _; rw [HM.out]; exact HR.out
        clear hf
        go_wp2_with fail
        go_ret2
        exact list_yes HRE.out HS0.out HNF.out
end Go.Proofs.YtjcocpdicogecaaGreatDoor

namespace Go.Proofs.YtjcocpdicogecaaGreatDoor
open Go.ChangeShapes Go.WideShapes Go.ChangeAt Go.RowKit
set_option linter.unusedVariables false

theorem parse_bad {t : List UInt8} {l0 : List InsD} (hj : joinX l0 = t) (hs : StepsIn l0) (hm : machineOkB l0 = false) : parseB t = false ∧ parseOf t = [] := by
  refine parse_no fun l h1 h2 => ?_
  rw [← hj] at h1
  rw [tx_all h1 hs, hm] at h2
  cases h2
theorem parse_good {t : List UInt8} {l0 : List InsD} (hj : joinX l0 = t) (hs : StepsIn l0) (hm : machineOkB l0 = true) : parseB t = true ∧ parseOf t = l0 := by
  have := parse_yes hs hm
  rwa [hj] at this
theorem pz_no {t : List UInt8} {w w2 : World} (h : parseB t = false ∧ parseOf t = []) (hb : Below w.heap.size w w2) : GivesParse w t (.returned (.tuple #[.slice (some ⟨w2.heap.size, 0, none⟩) 0 0, .bool false])) (w2.alloc (.cells #[] 36)) := by
  refine ⟨_, by rw [h.1], ?_, hb.trans ((Bel.alloc w2 _).mono hb.size)⟩
  rw [h.2]
  exact ownSteps_new (World.alloc_heap_new w2 _) hb.size
theorem pz_yes {t : List UInt8} {w w2 : World} {l0 : List InsD} {ov : Value} (h : parseB t = true ∧ parseOf t = l0) (ho : OwnSteps w2 w.heap.size ov l0) (hb : Below w.heap.size w w2) : GivesParse w t (.returned (.tuple #[ov, .bool true])) w2 :=
  ⟨ov, by rw [h.1], by rw [h.2]; exact ho, hb⟩

set_option maxRecDepth 100000 in
set_option maxHeartbeats 4000000 in
theorem impl_parse (EP : Addr) (t : List UInt8) (w : World) (hl : t.length ≤ 1048576) (hL : Libs w EP) :
    Calls Tryz.prog 6 #[.string (bs t)] w fun e w' => GivesParse w t e w' := by
  have HL : Hid (Libs w EP) := hL
  have HLM : Hid (t.length ≤ 1048576) := hl
  clear hl hL
  go_enter Tryz.func6, Tryz.ntmps6
  go_wp2_with fail
  refine (readSteps_any EP t _ HLM.out HL.out).mono ?_
  rintro e w1 ⟨v, ev, rfl, hres, b1⟩
  have HB : Hid (Below w.heap.size w w1) := b1
  have hEV := (HL.out.keep b1).eno
  clear b1
  rcases hres with ⟨rfl, l0, hj, hs, ho⟩ | ⟨rfl, rfl, hn1, hn2⟩
  · have HJ : Hid (joinX l0 = t) := hj
    have HS : Hid (StepsIn l0) := hs
    have HO : Hid (OwnSteps w1 w.heap.size v l0) := ho
    clear hj hs ho
    obtain ⟨ok, HOK⟩ : ∃ b, Hid (machineOkB l0 = b) := ⟨_, rfl⟩
    go_wp2_with fail
    refine (is_nil _ _).mono ?_
    rintro e w2 ⟨rfl, hw2⟩
    subst hw2
    go_wp2_with fail
    refine (impl_machineOk v l0 _ HO.out.at HS.out.ops (HL.out.keep HB.out).tabs.ft).mono ?_
    rintro e w3 ⟨rfl, b3⟩
    rw [HOK.out]
    have HB3 : Hid (Below w.heap.size w w3) := HB.out.trans (b3.mono HB.out.size)
    have HO3 : Hid (OwnSteps w3 w.heap.size v l0) := HO.out.keep b3
    clear b3 hEV
    cases ok with
    | false =>
      have HNO : Hid (parseB t = false ∧ parseOf t = []) := parse_bad HJ.out HS.out HOK.out
      go_wp2_with fail
      go_ret2
      exact pz_no HNO.out HB3.out
    | true =>
      have HY : Hid (parseB t = true ∧ parseOf t = l0) := parse_good HJ.out HS.out HOK.out
      go_wp2_with fail
      go_ret2
      exact pz_yes HY.out HO3.out HB3.out
  · have HNO : Hid (parseB t = false ∧ parseOf t = []) := ⟨hn1, hn2⟩
    clear hn1 hn2
    unfold EV
    go_wp2_with fail
    refine (is_same EP _).mono ?_
    rintro e w2 ⟨rfl, hw2⟩
    subst hw2
    clear hEV
    go_wp2_with fail
    go_ret2
    exact pz_no HNO.out HB.out
end Go.Proofs.YtjcocpdicogecaaGreatDoor
