/- What a program makes, told by the program's own iterator: its contract, for every program. -/
import Derived.Test.YtlmkipmkanhcfaaMakes
import Derived.Test.YtlmkipmkanhcfaaSeq
namespace Go.Proofs.Ytlmkipmkanhcfaa
open Go.ChangeShapes Go.WideShapes Go.ChangeAt Go.RowKit Go.Shelf
set_option linter.unusedVariables false
attribute [local go_sem] Oper.semAt_some

/-- Whatever is cells lies as it lay. -/
def KeepsCells (W W' : World) : Prop := ∀ (k : Nat) (o : Obj), W.heap[k]? = some o → o.isCells = true → W'.heap[k]? = some o
theorem keepsC_t {A B C : World} (h : KeepsCells A B) (k : KeepsCells B C) : KeepsCells A C := fun i o h1 h2 => k i o (h i o h1 h2) h2
theorem keepsC_b {w : World} (W : World) (l : Nat) (o o' : Obj) (_ : w.heap.size ≤ l) (h : W.heap[l]? = some o) (hc : o.isCells = false) (_ : o.isWalk = false) : KeepsCells W (W.putObj l o') := fun k x h1 h2 => by
  by_cases e : k = l
  · subst e
    rw [h] at h1
    cases h1
    rw [hc] at h2
    cases h2
  · exact (World.putObj_heap_other (by omega)).trans h1
theorem keepsC_below {W W' : World} (h : Below W.heap.size W W') : KeepsCells W W' := fun k o h1 _ => (h.block k (Array.getElem?_eq_some_iff.1 h1).1).trans h1
theorem keepsC_refl (W : World) : KeepsCells W W := fun _ _ h _ => h
theorem KeepsCells.cell {W W' : World} (h : KeepsCells W W') {p : Addr} {v : Value} (hc : W.cell? p = some v) : W'.cell? p = some v := by
  unfold World.cell? at hc ⊢
  cases e : W.heap[p.block]? with
  | none => rw [e] at hc; cases hc
  | some o =>
    rw [e] at hc
    cases o with
    | cells c t z => rw [h _ _ e rfl]; exact hc
    | _ => cases hc
theorem KeepsCells.keeps {W W' : World} (h : KeepsCells W W') : Keeps 0 W W' := fun p v _ hc => h.cell hc
theorem FnAt.kept {W W' : World} {v : Value} {F : FnD} (h : FnAt W v F) (k : KeepsCells W W') : FnAt W' v F := FnAtLo.keep h k.keeps
theorem grown_below {W W' : World} (h : Below W.heap.size W W') : W.grownBy W' none := ⟨h.os, h.tape, h.output, h.size, fun k hk _ => h.block k hk⟩
theorem abides_grow {β : Type} {B : Nat} {J : β → World → Prop} (h : AbidesFrom B J) {s : β} {W W' : World} (hs : J s W) (hb : Below W.heap.size W W') : J s W' := h s W W' none hs (grown_below hb) (fun r e => by cases e)

theorem pre_in {l m : List Made} {x : Made} (h : l ++ [x] <+: m) : x ∈ m ∧ l.length < m.length := by
  obtain ⟨t, rfl⟩ := h
  simp

theorem makings_any (v : Value) (w : World) (ba : Option Addr) (n bcap : Nat) (vals : Int) (hv : v = .agg #[.slice ba n bcap, .int .i64 vals]) :
    Calls Try.prog 56 #[v] w fun r w' => r = .returned (.func (.func 76) #[] #[.pointer (some ⟨w.heap.size, 0, none⟩)]) ∧ w' = w.alloc (.cells #[.slice ba n bcap, .int .i64 vals] 26) := by
  subst hv
  go_enter Try.func56, Try.ntmps56
  go_wp2
  go_ret
  exact ⟨rfl, rfl⟩

set_option maxRecDepth 100000 in
set_option maxHeartbeats 8000000 in
theorem making_seq (Q : Made → Prop) (m : Nat) (hm : 3 ≤ m) (l B : Nat) (F : FnD) (ba : Option Addr) (n bcap : Nat) (vals : Int) (hQ : ∀ x ∈ makesOf F, Q x) (J Jx : List {x // Q x} → World → Prop) (W : World)
    (aJ : AbidesFrom W.heap.size J)
    (hY : ∀ pre x W1, J pre W1 → pre.length < (makesOf F).length → YieldAt Fence.wide (m - 1) Try.prog l #[.int .i64 x.1.1, .agg #[.int .i64 x.1.2.1, .int .i64 x.1.2.2]] W1 fun r W' =>
      (r = .returned (.bool true) ∧ J (pre ++ [x]) W' ∧ KeepsCells W1 W') ∨ (r = .returned (.bool false) ∧ Jx (pre ++ [x]) W'))
    (hF : FnAt W (.agg #[.slice ba n bcap, .int .i64 vals]) F) (hN : F.blocks.length = n) (hB : W.cell? ⟨B, 0, none⟩ = some (.slice ba n bcap)) (h0 : J [] W) :
    CallsIn Fence.wide m Try.prog 76 #[.func (.yield l) #[] #[], .pointer (some ⟨B, 0, none⟩)] W fun r W' => (∃ v, r = .returned v) ∧
      ((∃ ys : List {x // Q x}, ys.map (fun x => x.1) = makesOf F ∧ J ys W') ∨ (∃ pre : List {x // Q x}, (pre.map (fun x => x.1) <+: makesOf F) ∧ Jx pre W')) := by
  have HN : Hid (F.blocks.length = n) := hN
  have HQ : Hid (∀ x ∈ makesOf F, Q x) := hQ
  have AJ : Hid (AbidesFrom W.heap.size J) := aJ
  have HY : Hid (∀ pre x W1, J pre W1 → pre.length < (makesOf F).length → YieldAt Fence.wide (m - 1) Try.prog l #[.int .i64 x.1.1, .agg #[.int .i64 x.1.2.1, .int .i64 x.1.2.2]] W1 fun r W' =>
      (r = .returned (.bool true) ∧ J (pre ++ [x]) W' ∧ KeepsCells W1 W') ∨ (r = .returned (.bool false) ∧ Jx (pre ++ [x]) W')) := hY
  have HF : Hid (FnAt W (.agg #[.slice ba n bcap, .int .i64 vals]) F) := hF
  have H0 : Hid (J [] W) := h0
  have hbm : n ≤ 9223372036854775807 := by
    obtain ⟨bv, hv, a, cap, e, h1, _⟩ := hF
    rw [hN] at h1
    exact h1
  clear hN hQ aJ hY hF h0
  refine callsIn_of_wp Try.func76 rfl trivial ?_ rfl
  simp only [Try.ntmps76, List.size_toArray, List.length_cons, List.length_nil, Nat.reduceAdd, Nat.reduceSub, Array.replicate_succ, Array.replicate_zero, List.push_toArray, List.append_toArray, List.nil_append, List.cons_append]
  gi_wp2
  gi_loopw [14] (fun i wr => ∃ (k : Nat) (pre : List {x // Q x}), k ≤ n ∧ i = .int .i64 k ∧ pre.map (fun x => x.1) = makesUp F k ∧ J pre wr ∧ FnAt wr (.agg #[.slice ba n bcap, .int .i64 vals]) F) (fun i _ => n - (intOf i).toNat)
  case atStart => exact ⟨0, [], Nat.zero_le _, rfl, rfl, H0.out, HF.out⟩
  case round =>
    obtain ⟨wq, hwq⟩ : ∃ x, x = wr := ⟨_, rfl⟩
    subst hwq
    obtain ⟨k, pre, hk, rfl, hpre, hJ, hFq⟩ := hrel
    have HP : Hid (pre.map (fun x => x.1) = makesUp F k) := hpre
    have HJ : Hid (J pre wq) := hJ
    have HFq : Hid (FnAt wq (.agg #[.slice ba n bcap, .int .i64 vals]) F) := hFq
    clear hpre hJ hFq
    by_cases hlt : (k : Int) < (n : Int)
    · have hkl : k < F.blocks.length := by have := HN.out; omega
      obtain ⟨x, HX⟩ : ∃ x, Hid (F.blocks[k]? = some x) := ⟨F.blocks[k], List.getElem?_eq_getElem hkl⟩
      obtain ⟨b, off, hba, pv, lv, c0, c1, c2, c3, c4, c5, hpv, hlv⟩ : ∃ b off, ba = some ⟨b, off, none⟩ ∧ BlockAt 0 wq b (off + k * 6) x := by
        obtain ⟨bv, hv, a, cap, e, h1, h2⟩ := HFq.out
        obtain ⟨b, off, ha, _, hc⟩ := h2 (by omega)
        obtain rfl : bv = .slice ba n bcap := by simp at hv; exact hv.1.symm
        simp at e
        exact ⟨b, off, e.1.trans ha, hc k x HX.out⟩
      subst hba
      obtain ⟨x0, x1, ⟨x2, x3, x4, x5⟩⟩ := x
      have HPV : Hid (ListAt 0 2 (PhiAt 0) wq pv x0) := hpv
      have HLV : Hid (ListAt 0 5 InsAt wq lv x1) := hlv
      obtain ⟨pa, pcap, rfl, hpm, -⟩ := hpv
      obtain ⟨la, lcap, rfl, hlm, -⟩ := hlv
      obtain ⟨pn, HPN⟩ : ∃ n, Hid (x0.length = n) := ⟨_, rfl⟩
      obtain ⟨ln, HLN⟩ : ∃ n, Hid (x1.length = n) := ⟨_, rfl⟩
      rw [HPN.out] at hpm c0
      rw [HLN.out] at hlm c1
      dsimp only at c2 c3 c4 c5
      clear hkl
      gi_wp2
      obtain ⟨W2, hW2⟩ : ∃ W2, wq.alloc (.cells #[.slice pa pn pcap, .slice la ln lcap, .int .i64 x2, .int .i64 x3, .int .i64 x4, .int .i64 x5] 50) = W2 := ⟨_, rfl⟩
      obtain ⟨X, hX⟩ : ∃ X, wq.heap.size = X := ⟨_, rfl⟩
      have hb2 : Below wq.heap.size wq W2 := by rw [← hW2]; exact Bel.alloc _ _
      have d1 : W2.cell? ⟨X, 1, none⟩ = some (.slice la ln lcap) := by rw [← hW2, ← hX]; simp [go_sem]
      have J2 : Hid (J pre W2) := abides_grow AJ.out HJ.out hb2
      have F2 : Hid (FnAt W2 (.agg #[.slice (some ⟨b, off, none⟩) n bcap, .int .i64 vals]) F) := HFq.out.later hb2
      have P2 : Hid (ListAt 0 2 (PhiAt 0) W2 (.slice pa x0.length pcap) x0) := phis_keep HPV.out (Keeps.of_below hb2 0)
      have L2 : Hid (ListAt 0 5 InsAt W2 (.slice la x1.length lcap) x1) := places_keep HLV.out (Keeps.of_below hb2 0)
      rw [hW2, hX]
      clear hW2 hX hb2 HPV HLV HJ HFq c0 c1 c2 c3 c4 c5
      gi_loopw [22] (fun i wr => ∃ (j : Nat) (pre : List {x // Q x}), j ≤ pn ∧ i = .int .i64 j ∧ pre.map (fun x => x.1) = makesUp F k ++ phiMakes k (x0.take j) ∧ J pre wr ∧ FnAt wr (.agg #[.slice (some ⟨b, off, none⟩) n bcap, .int .i64 vals]) F ∧ ListAt 0 2 (PhiAt 0) wr (.slice pa x0.length pcap) x0 ∧ ListAt 0 5 InsAt wr (.slice la x1.length lcap) x1 ∧ wr.cell? ⟨X, 1, none⟩ = some (.slice la ln lcap)) (fun i _ => pn - (intOf i).toNat)
      case atStart => exact ⟨0, pre, Nat.zero_le _, rfl, by rw [HP.out]; simp [phiMakes], J2.out, F2.out, P2.out, L2.out, d1⟩
      case round =>
        clear J2 F2 P2 L2 d1
        obtain ⟨wp, hwp⟩ : ∃ x, x = wr := ⟨_, rfl⟩
        subst hwp
        obtain ⟨j, pre2, hj, rfl, hpre2, hJ2, hF2, hP2, hL2, d1⟩ := hrel
        have HP2 : Hid (pre2.map (fun x => x.1) = makesUp F k ++ phiMakes k (x0.take j)) := hpre2
        have J2 : Hid (J pre2 wp) := hJ2
        have F2 : Hid (FnAt wp (.agg #[.slice (some ⟨b, off, none⟩) n bcap, .int .i64 vals]) F) := hF2
        have P2 : Hid (ListAt 0 2 (PhiAt 0) wp (.slice pa x0.length pcap) x0) := hP2
        have L2 : Hid (ListAt 0 5 InsAt wp (.slice la x1.length lcap) x1) := hL2
        clear hpre2 hJ2 hF2 hP2 hL2
        by_cases hltj : (j : Int) < (pn : Int)
        · have hjl : j < x0.length := by have := HPN.out; omega
          obtain ⟨p, HX2⟩ : ∃ p, Hid (x0[j]? = some p) := ⟨x0[j], List.getElem?_eq_getElem hjl⟩
          obtain ⟨b', off', hpa, p0, av, p1, hav⟩ : ∃ b off, pa = some ⟨b, off, none⟩ ∧ PhiAt 0 wp b (off + j * 2) p := by
            obtain ⟨a, cap, e, h1, h2⟩ := P2.out
            obtain ⟨b, off, ha, _, hc⟩ := h2 (by omega)
            simp at e
            exact ⟨b, off, e.1.trans ha, hc j p HX2.out⟩
          subst hpa
          obtain ⟨pd, arms⟩ := p
          obtain ⟨sa, scap, rfl, -⟩ := hav
          obtain ⟨sn, hsn⟩ : ∃ n, arms.length = n := ⟨_, rfl⟩
          rw [hsn] at p1
          dsimp only at p0
          clear hjl
          have hstep := phiMakes_next (b := k) HX2.out
          have hin := pre_in (l := makesUp F k ++ phiMakes k (x0.take j)) (x := (pd, (k : Int), -1)) (m := makesOf F) (by
            have := makes_phi (k := j + 1) HX.out
            dsimp only at this
            rw [hstep, ← List.append_assoc] at this
            exact this)
          have hpre3 : (pre2 ++ [(⟨(pd, (k : Int), -1), HQ.out _ hin.1⟩ : {x // Q x})]).map (fun x => x.1) = makesUp F k ++ phiMakes k (x0.take (j + 1)) := by
            rw [hstep, List.map_append, HP2.out]
            simp
          have HP3 : Hid ((pre2 ++ [(⟨(pd, (k : Int), -1), HQ.out _ hin.1⟩ : {x // Q x})]).map (fun x => x.1) = makesUp F k ++ phiMakes k (x0.take (j + 1))) := hpre3
          have hbp := Bel.alloc wp (.cells #[.int .i64 pd, .slice sa sn scap] 53)
          obtain ⟨f1, t1, a1, b1, hy1, hR1⟩ := HY.out pre2 (⟨(pd, (k : Int), -1), HQ.out _ hin.1⟩ : {x // Q x}) (wp.alloc (.cells #[.int .i64 pd, .slice sa sn scap] 53)) (abides_grow AJ.out J2.out hbp) (by
            have := hin.2
            rw [← HP2.out, List.length_map] at this
            exact this)
          have HR1 : Hid (RoundIn Fence.wide (m - 1) Try.prog l f1 t1 a1 b1 (wp.alloc (.cells #[.int .i64 pd, .slice sa sn scap] 53)) fun r W' =>
            (r = .returned (.bool true) ∧ J (pre2 ++ [(⟨(pd, (k : Int), -1), HQ.out _ hin.1⟩ : {x // Q x})]) W' ∧ KeepsCells (wp.alloc (.cells #[.int .i64 pd, .slice sa sn scap] 53)) W') ∨ (r = .returned (.bool false) ∧ Jx (pre2 ++ [(⟨(pd, (k : Int), -1), HQ.out _ hin.1⟩ : {x // Q x})]) W')) := hR1
          have F3 : Hid (FnAt (wp.alloc (.cells #[.int .i64 pd, .slice sa sn scap] 53)) (.agg #[.slice (some ⟨b, off, none⟩) n bcap, .int .i64 vals]) F) := F2.out.later hbp
          have P3 : Hid (ListAt 0 2 (PhiAt 0) (wp.alloc (.cells #[.int .i64 pd, .slice sa sn scap] 53)) (.slice (some ⟨b', off', none⟩) x0.length pcap) x0) := phis_keep P2.out (Keeps.of_below hbp 0)
          have L3 : Hid (ListAt 0 5 InsAt (wp.alloc (.cells #[.int .i64 pd, .slice sa sn scap] 53)) (.slice la x1.length lcap) x1) := places_keep L2.out (Keeps.of_below hbp 0)
          have D3 : Hid ((wp.alloc (.cells #[.int .i64 pd, .slice sa sn scap] 53)).cell? ⟨X, 1, none⟩ = some (.slice la ln lcap)) := Bel.keeps hbp d1
          dsimp only at hy1
          clear hstep hpre3 hR1 hbp d1 F2 P2 L2 J2
          gi_wp2
          refine ⟨fun _ => by omega, HR1.out.mono ?_⟩
          rintro r W1 (⟨rfl, hJ1, hk1⟩ | ⟨rfl, hx1⟩)
          · have J4 : Hid (J (pre2 ++ [(⟨(pd, (k : Int), -1), HQ.out _ hin.1⟩ : {x // Q x})]) W1) := hJ1
            have K4 : Hid (KeepsCells (wp.alloc (.cells #[.int .i64 pd, .slice sa sn scap] 53)) W1) := hk1
            clear hJ1 hk1 HR1
            gi_wp2
            go_roundw
            case rel => exact ⟨j + 1, _, by omega, by go_num, HP3.out, J4.out, F3.out.kept K4.out, phis_keep P3.out K4.out.keeps, places_keep L3.out K4.out.keeps, K4.out.cell D3.out⟩
            case measure => simp [intOf]; omega
          · have X4 : Hid (Jx (pre2 ++ [(⟨(pd, (k : Int), -1), HQ.out _ hin.1⟩ : {x // Q x})]) W1) := hx1
            clear hx1 HR1
            gi_wp2
            first | go_end0 | refine bodyPost_ret (results_none Try.results76 _ _ _) rfl ?_
            exact ⟨⟨_, rfl⟩, .inr ⟨_, by rw [HP3.out]; exact makes_phi (x := ⟨x0, x1, ⟨x2, x3, x4, x5⟩⟩) HX.out, X4.out⟩⟩
        · have hjn : pn = j := by omega
          subst hjn
          have hp3 : pre2.map (fun x => x.1) = makesUp F k ++ phiMakes k x0 ++ insMakes k x1 0 := by
            have := HP2.out
            rw [← HPN.out, List.take_length] at this
            simpa [insMakes] using this
          have HP3 : Hid (pre2.map (fun x => x.1) = makesUp F k ++ phiMakes k x0 ++ insMakes k x1 0) := hp3
          clear hp3
          clear HP2 P2
          gi_wp2
          gi_loopw [37] (fun i wr => ∃ (j : Nat) (pre : List {x // Q x}), j ≤ ln ∧ i = .int .i64 j ∧ pre.map (fun x => x.1) = makesUp F k ++ phiMakes k x0 ++ insMakes k x1 j ∧ J pre wr ∧ FnAt wr (.agg #[.slice (some ⟨b, off, none⟩) n bcap, .int .i64 vals]) F ∧ ListAt 0 5 InsAt wr (.slice la x1.length lcap) x1) (fun i _ => ln - (intOf i).toNat)
          case atStart => exact ⟨0, pre2, Nat.zero_le _, rfl, HP3.out, J2.out, F2.out, L2.out⟩
          case round =>
            clear J2 F2 L2 d1 HP3
            obtain ⟨wp2, hwp⟩ : ∃ x, x = wr := ⟨_, rfl⟩
            subst hwp
            obtain ⟨j, pre3, hj, rfl, hpre2, hJ2, hF2, hL2⟩ := hrel
            have HP2 : Hid (pre3.map (fun x => x.1) = makesUp F k ++ phiMakes k x0 ++ insMakes k x1 j) := hpre2
            have J2 : Hid (J pre3 wp2) := hJ2
            have F2 : Hid (FnAt wp2 (.agg #[.slice (some ⟨b, off, none⟩) n bcap, .int .i64 vals]) F) := hF2
            have L2 : Hid (ListAt 0 5 InsAt wp2 (.slice la x1.length lcap) x1) := hL2
            clear hpre2 hJ2 hF2 hL2
            by_cases hltj : (j : Int) < (ln : Int)
            · have hjl : j < x1.length := by have := HLN.out; omega
              obtain ⟨p, HX2⟩ : ∃ p, Hid (x1[j]? = some p) := ⟨x1[j], List.getElem?_eq_getElem hjl⟩
              obtain ⟨b', off', hpa, p0, p1, p2, p3, p4⟩ : ∃ b off, la = some ⟨b, off, none⟩ ∧ InsAt wp2 b (off + j * 5) p := by
                obtain ⟨a, cap, e, h1, h2⟩ := L2.out
                obtain ⟨b, off, ha, _, hc⟩ := h2 (by omega)
                simp at e
                exact ⟨b, off, e.1.trans ha, hc j p HX2.out⟩
              subst hpa
              obtain ⟨iop, id, ia, ib, ic⟩ := p
              dsimp only at p0 p1 p2 p3 p4
              obtain ⟨md, HMD⟩ : ∃ x, Hid (madeV iop id = x) := ⟨_, rfl⟩
              obtain ⟨mk, HMK⟩ : ∃ x, Hid (makesV iop = x) := ⟨_, rfl⟩
              have JL : j + 1 ≤ x1.length := hjl
              clear hjl
              gi_wp2_with fail
              refine ⟨trivial, ?_⟩
              refine ⟨fun _ => by omega, (callsIn_wide.2 (placeOf_any iop id ia ib ic _)).mono ?_⟩
              rintro e w3 ⟨rfl, b3⟩
              gi_wp2_with fail
              refine ⟨trivial, ?_⟩
              refine ⟨fun _ => by omega, (callsIn_wide.2 (placeDef_any iop id ia ib ic _)).mono ?_⟩
              rw [HMD.out, HMK.out]
              rintro e w4 ⟨rfl, b4⟩
              have hb4 : Below wp2.heap.size wp2 w4 := Bel.after (Bel.after (Bel.alloc wp2 (.cells #[.int .i64 iop, .int .i64 id, .int .i64 ia, .int .i64 ib, .int .i64 ic] 44)) b3) b4
              have J4 : Hid (J pre3 w4) := abides_grow AJ.out J2.out hb4
              have F4 : Hid (FnAt w4 (.agg #[.slice (some ⟨b, off, none⟩) n bcap, .int .i64 vals]) F) := F2.out.later hb4
              have L4 : Hid (ListAt 0 5 InsAt w4 (.slice (some ⟨b', off', none⟩) x1.length lcap) x1) := places_keep L2.out (Keeps.of_below hb4 0)
              clear b3 b4 hb4 p0 p1 p2 p3 p4 J2 F2 L2
              cases mk with
              | false =>
                have HP3 : Hid (pre3.map (fun x => x.1) = makesUp F k ++ phiMakes k x0 ++ insMakes k x1 (j + 1)) := by
                  have := insMakes_no (b := k) HX2.out HMK.out
                  rw [this]
                  exact HP2.out
                gi_wp2
                refine ⟨fun _ h => (by cases h), ?_⟩
                gi_wp2
                go_roundw
                case rel => exact ⟨j + 1, _, by omega, by go_num, HP3.out, J4.out, F4.out, L4.out⟩
                case measure => simp [intOf]; omega
              | true =>
                have hmd : md = id := by have h1 := HMD.out; have h2 := HMK.out; unfold madeV at h1; rw [if_pos h2] at h1; exact h1.symm
                subst hmd
                have hstep := insMakes_yes (b := k) HX2.out HMK.out
                dsimp only at hstep
                have hin := pre_in (l := makesUp F k ++ phiMakes k x0 ++ insMakes k x1 j) (x := (md, (k : Int), (j : Int))) (m := makesOf F) (by
                  have := makes_ins (k := j + 1) HX.out JL
                  dsimp only at this
                  rw [hstep, ← List.append_assoc] at this
                  exact this)
                have hpre3 : (pre3 ++ [(⟨(md, (k : Int), (j : Int)), HQ.out _ hin.1⟩ : {x // Q x})]).map (fun x => x.1) = makesUp F k ++ phiMakes k x0 ++ insMakes k x1 (j + 1) := by
                  rw [hstep, List.map_append, HP2.out]
                  simp
                have HP3 : Hid ((pre3 ++ [(⟨(md, (k : Int), (j : Int)), HQ.out _ hin.1⟩ : {x // Q x})]).map (fun x => x.1) = makesUp F k ++ phiMakes k x0 ++ insMakes k x1 (j + 1)) := hpre3
                obtain ⟨f1, t1, a1, b1, hy1, hR1⟩ := HY.out pre3 (⟨(md, (k : Int), (j : Int)), HQ.out _ hin.1⟩ : {x // Q x}) w4 J4.out (by
                  have := hin.2
                  rw [← HP2.out, List.length_map] at this
                  exact this)
                have HR1 : Hid (RoundIn Fence.wide (m - 1) Try.prog l f1 t1 a1 b1 w4 fun r W' =>
                  (r = .returned (.bool true) ∧ J (pre3 ++ [(⟨(md, (k : Int), (j : Int)), HQ.out _ hin.1⟩ : {x // Q x})]) W' ∧ KeepsCells w4 W') ∨ (r = .returned (.bool false) ∧ Jx (pre3 ++ [(⟨(md, (k : Int), (j : Int)), HQ.out _ hin.1⟩ : {x // Q x})]) W')) := hR1
                dsimp only at hy1
                clear hstep hpre3 hR1
                gi_wp2
                refine ⟨fun _ => by omega, HR1.out.mono ?_⟩
                rintro r W1 (⟨rfl, hJ1, hk1⟩ | ⟨rfl, hx1⟩)
                · have J5 : Hid (J (pre3 ++ [(⟨(md, (k : Int), (j : Int)), HQ.out _ hin.1⟩ : {x // Q x})]) W1) := hJ1
                  have K5 : Hid (KeepsCells w4 W1) := hk1
                  clear hJ1 hk1 HR1
                  gi_wp2
                  go_roundw
                  case rel => exact ⟨j + 1, _, by omega, by go_num, HP3.out, J5.out, F4.out.kept K5.out, places_keep L4.out K5.out.keeps⟩
                  case measure => simp [intOf]; omega
                · have X5 : Hid (Jx (pre3 ++ [(⟨(md, (k : Int), (j : Int)), HQ.out _ hin.1⟩ : {x // Q x})]) W1) := hx1
                  clear hx1 HR1
                  gi_wp2
                  first | go_end0 | refine bodyPost_ret (results_none Try.results76 _ _ _) rfl ?_
                  exact ⟨⟨_, rfl⟩, .inr ⟨_, by rw [HP3.out]; exact makes_ins (x := ⟨x0, x1, ⟨x2, x3, x4, x5⟩⟩) HX.out JL, X5.out⟩⟩
            · have hjn : ln = j := by omega
              subst hjn
              have HP4 : Hid (pre3.map (fun x => x.1) = makesUp F (k + 1)) := by
                have h1 := makesUp_next HX.out
                have h2 := HP2.out
                rw [← HLN.out] at h2
                rw [h1, h2, List.append_assoc]
                rfl
              gi_wp2
              go_roundw
              case rel => exact ⟨k + 1, _, by omega, by go_num, HP4.out, J2.out, F2.out⟩
              case measure => simp [intOf]; omega
    · have hkn : n = k := by omega
      subst hkn
      gi_wp2
      go_end0
      exact ⟨⟨_, rfl⟩, .inl ⟨pre, by rw [HP.out]; unfold makesOf; rw [HN.out], HJ.out⟩⟩
end Go.Proofs.Ytlmkipmkanhcfaa
