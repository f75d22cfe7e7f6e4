/- Proved: for every draw a program with noughts behind what it reads tells the same; no condition. -/
import Derived.Test.YtkpddakmcnknjaaRows
import Derived.Test.YtkpddakmcnknjaaRunAll
import Derived.WalkKit
import Derived.ProofKit
import Derived.OpenShut
import Derived.ShutString
import Derived.ChangeOld
import Derived.Below
namespace Go.Proofs.Ytkpddakmcnknjaa.fnReads
open Go.ChangeShapes Go.WideShapes Go.ChangeAt Go.RowKit
open Go.ChangeMaps (open_string shut_string)
set_option linter.unusedVariables false

theorem own : ownKnob Try.prog.godebug = none := by kernel_rfl
theorem laidOut : laidOutB Try.prog = true := by kernel_rfl

set_option maxRecDepth 100000 in
set_option maxHeartbeats 32000000 in
set_option maxHeartbeats 4000000 in
theorem walk (w : World) (a0 : Option Addr) (len0 cap0 : Nat) (z0 : List Int) (r0 : IsRow .u8 w a0 len0 cap0 z0) :
    Calls Try.prog 5 #[.slice a0 len0 cap0] w fun e w' => e = .returned (.bool true) ∧ Below w.heap.size w w' := by
  have HR : Hid (IsRow .u8 w a0 len0 cap0 z0) := r0
  clear r0
  go_enter Try.func5, Try.ntmps5
  go_wp2_with fail
  refine (big_any a0 len0 cap0 _).mono ?_
  rintro e w1 ⟨t, rfl, rfl⟩
  cases t with
  | true =>
    go_wp2_with fail
    go_ret
    exact ⟨rfl, Below.refl _ _⟩
  | false =>
    go_wp2_with fail
    refine (drawRun_any a0 len0 cap0 z0 _ HR.out).mono ?_
    rintro e w2 ⟨v, F, rv, rd, fu, rfl, hF, hn0, hn9, orv, hl6, hfu0, hfu1, b2⟩
    obtain ⟨n, HN⟩ : ∃ n, Hid (F.blocks.length = n) := ⟨_, rfl⟩
    obtain ⟨vals, HV⟩ : ∃ x, Hid (F.values = x) := ⟨_, rfl⟩
    have F2 : Hid (FnAt w2 v F) := FnAtLo.low (Nat.zero_le _) hF
    obtain ⟨ba, bcap, rfl⟩ := F2.out.out HN.out HV.out
    have B2 : Hid (Below w1.heap.size w1 w2) := b2
    have OR2 : Hid (OwnInts w2 w1.heap.size rv rd) := orv
    obtain ⟨rn, HRN⟩ : ∃ q, Hid (rd.length = q) := ⟨_, rfl⟩
    rw [HRN.out] at hl6
    obtain ⟨ra, rc, rfl, hrc, hrm⟩ : ∃ a c, rv = .slice a rn c ∧ rn ≤ c ∧ c ≤ 9223372036854775807 := by
      obtain ⟨a, c, e, h1, h2, _⟩ := orv.shape
      rw [HRN.out] at e h1
      exact ⟨a, c, e, h1, h2⟩
    have HL2 : Hid (rd.length ≤ 2000000) := by have := HRN.out; show rd.length ≤ 2000000; omega
    clear hF b2 orv hn0 hn9
    obtain ⟨⟨L, hw, en⟩, HL⟩ : ∃ p, Hid (runOf F rd fu = p) := ⟨_, rfl⟩
    have hlen : L.length ≤ 6000 := by have h := runOf_len F rd fu; rw [HL.out] at h; exact h
    have hdw : (hw != hw) = false := by simp
    have hde : (en != en) = false := by simp
    have hdw2 : (hw == hw) = true := by simp
    have hde2 : (en == en) = true := by simp
    have hd : decide (L = L) = true := by simp
    obtain ⟨ln, HLN⟩ : ∃ q, Hid (L.length = q) := ⟨_, rfl⟩
    rw [HLN.out] at hlen
    go_wp2_with fail
    refine (impl_run _ _ F rd fu _ (F2.out.later (Bel.alloc _ _)) (OR2.out.keep (Bel.alloc _ _)).readsL).mono ?_
    rw [HL.out]
    dsimp only [GivesTold]
    rintro e w3 ⟨av, rfl, oa, b3⟩
    have OA : Hid (OwnInts w3 (w2.alloc (.cells #[.slice ba n bcap, .int .i64 vals] 26)).heap.size av L) := oa
    have B3 : Hid (Below w1.heap.size w1 w3) := Bel.after (Bel.after B2.out (Bel.alloc _ _)) b3
    have F3 : Hid (FnAt w3 (.agg #[.slice ba n bcap, .int .i64 vals]) F) := (F2.out.later (Bel.alloc _ _)).later b3
    have OR3 : Hid (OwnInts w3 w1.heap.size (.slice ra rn rc) rd) := (OR2.out.keep (Bel.alloc _ _)).keep b3
    have c0 := box_cell b3 0
    have c1 := box_cell b3 1
    simp at c0 c1
    have OA3 : Hid (IntsAt w3 av L) := oa.at
    obtain ⟨aa, acap, rfl⟩ : ∃ a c, av = .slice a ln c := by
      obtain ⟨a, c, e, _⟩ := oa.shape
      rw [HLN.out] at e
      exact ⟨a, c, e⟩
    clear b3 F2 B2 OR2 oa OA
    obtain ⟨FB, hFB⟩ : ∃ x, w2.heap.size = x := ⟨_, rfl⟩
    rw [hFB] at c0 c1 ⊢
    clear hFB
    go_wp2_with fail
    refine (spec_run _ _ F rd fu _ F3.out OR3.out.readsL HL2.out).mono ?_
    rw [HL.out]
    dsimp only [GivesTold]
    rintro e w4 ⟨bv, rfl, ob, b4⟩
    have B4 : Hid (Below w1.heap.size w1 w4) := Bel.after B3.out b4
    have F4 : Hid (FnAt w4 (.agg #[.slice ba n bcap, .int .i64 vals]) F) := F3.out.later b4
    have OR4 : Hid (OwnInts w4 w1.heap.size (.slice ra rn rc) rd) := OR3.out.keep b4
    have OA4 : Hid (IntsAt w4 (.slice aa ln acap) L) := OA3.out.keep b4
    replace c0 := Bel.keeps b4 c0
    replace c1 := Bel.keeps b4 c1
    clear b4 ob F3 B3 OR3 OA3
    obtain ⟨i0, hi, hz0, hz1, hz2⟩ := info_parts info_int
    have hmx : 100000 ≤ maxLen := by decide
    have hFBw : FB < w4.heap.size := World.block_lt_of_cell? w4 _ c0
    have C04 : Hid (w4.cell? ⟨FB, 0, none⟩ = some (.slice ba n bcap)) := c0
    have C14 : Hid (w4.cell? ⟨FB, 1, none⟩ = some (.int .i64 vals)) := c1
    go_wp2_with fail
    go_region_held3 (fun w' => w'.cell? ⟨FB, 0, none⟩ = some (.slice ba n bcap) ∧ w'.cell? ⟨FB, 1, none⟩ = some (.int .i64 vals)) (first | exact ⟨y0, y1⟩ | exact ⟨z0, z1⟩ | go_keep)
      (first
        | (rw [if_pos (by rfl)]; refine wp_copy (.tmp 41) (.tmp 42) rfl w4.heap.size _ rn rc ra rd rfl rfl (by repeat (first | exact heap_last (by simp) | exact heap_last rfl | refine (Below.heap_alloc _ _ _ (by first | omega | (simp; done) | (simp; omega))).trans ?_ | rw [heap_drew] | refine (HBK.out.block _ (by first | omega | (simp [heap_drew]; omega) | simp [heap_drew])).trans ?_)) (by first | omega | (simp; done) | (simp; omega)) (OR4.out.readsL.keep (by repeat (first | exact Below.refl _ _ | apply Below.drew | refine Below.alloc ?_ (by first | omega | (simp; done) | (simp; omega)) _))) (by first | omega | (simp; done) | (simp; omega)) HRN.out (by omega) ?_; intro v5 w5 hb5 ho5; have z0 : w5.cell? ⟨FB, 0, none⟩ = some (.slice ba n bcap) := Bel.keeps hb5 (by go_keep); have z1 : w5.cell? ⟨FB, 1, none⟩ = some (.int .i64 vals) := Bel.keeps hb5 (by go_keep); have B5 : Hid (Below w4.heap.size w4 w5) := (Below.trans (by repeat (first | exact Below.refl _ _ | apply Below.drew | refine Below.alloc ?_ (by first | omega | (simp; done) | (simp; omega)) _)) (hb5.mono (by first | omega | (simp [heap_drew]; done) | (simp [heap_drew]; omega)))); have HBK : Hid (Below _ _ w5) := hb5; have hs5 := hb5.size; have hs45 : w4.heap.size ≤ w5.heap.size := B5.out.size; have O5 : Hid (OwnInts w5 w4.heap.size v5 rd) := ho5; have O5r : Hid (w5.ownsRow w4.heap.size 3 1 v5 rn (rd.map (fun x => Value.int .i64 x))) := (by have h9 := ho5; unfold OwnInts at h9; rw [HRN.out] at h9; exact h9); clear hb5 ho5; try simp [heap_drew] at hs5)
        | (rw [if_pos (by rfl)]; refine wp_append_loc (.tmp 43) (.tmp 44) 27 rfl w4.heap.size 3 i0 (.int .i64 0) 1 8 Try.underlying27 hi hz0 hz1 hz2 rfl (by decide) v5 rn (rd.map (fun x => Value.int .i64 x)) rfl (by first | exact O5r.out | exact World.ownsRow.alloc O5r.out _) ⟨_, 0, none⟩ 2 2 [.int .i64 0, .int .i64 0] rfl rfl (two_at (by repeat (first | exact heap_last (by simp) | exact heap_last rfl | refine (Below.heap_alloc _ _ _ (by first | omega | (simp; done) | (simp; omega))).trans ?_ | rw [heap_drew] | refine (HBK.out.block _ (by first | omega | (simp [heap_drew]; omega) | simp [heap_drew])).trans ?_))) (by simp [Value.oneCell']) (by omega) (by omega) (by first | omega | (simp; done) | (simp; omega)) ?_; intro v6 w6 ho6 hg6 _; have B6 : Hid (Below w4.heap.size w4 w6) := (Below.trans (by repeat (first | exact B5.out | apply Below.drew | refine Below.alloc ?_ (by first | omega | (simp; done) | (simp; omega)) _)) ((Below.refl w4.heap.size _).grown hg6 (by first | omega | (simp; done) | (simp; omega)) (fun j ej => (World.ownsRow.lt O5r.out j ej).1))); have O6 : Hid (OwnInts w6 w4.heap.size v6 (rd ++ [0, 0])) := (by unfold OwnInts; rw [List.length_append, HRN.out, List.map_append]; exact ho6); have y0 : w6.cell? ⟨FB, 0, none⟩ = some (.slice ba n bcap) := (B6.out.cell (p := ⟨FB, 0, none⟩) hFBw).trans C04.out; have y1 : w6.cell? ⟨FB, 1, none⟩ = some (.int .i64 vals) := (B6.out.cell (p := ⟨FB, 1, none⟩) hFBw).trans C14.out; clear ho6 hg6)
        | (go_at_call 11; refine (impl_run _ _ F (rd ++ [0, 0]) fu _ (F4.out.later B6.out) O6.out.readsL).mono ?_; rw [runOf_noughts, HL.out]; dsimp only [GivesTold]; rintro e w7 ⟨cv, rfl, oc, b7⟩; have B7 : Hid (Below w4.heap.size w4 w7) := Bel.after B6.out b7; have OC : Hid (IntsAt w7 cv L) := oc.at; have y0 : w7.cell? ⟨FB, 0, none⟩ = some (.slice ba n bcap) := (B7.out.cell (p := ⟨FB, 0, none⟩) hFBw).trans C04.out; have y1 : w7.cell? ⟨FB, 1, none⟩ = some (.int .i64 vals) := (B7.out.cell (p := ⟨FB, 1, none⟩) hFBw).trans C14.out; clear oc b7))
    all_goals
      have B7 : Hid (Below w4.heap.size w4 w7) := by assumption
      have OC : Hid (IntsAt w7 cv L) := by assumption
      have OA7 : Hid (IntsAt w7 (.slice aa ln acap) L) := OA4.out.keep B7.out
      have hBB : Hid (Below w1.heap.size w1 w7) := Bel.after B4.out B7.out
      simp only [Exit.then]
      go_at_K
      go_wp2_with fail
      refine (sameInts_any _ _ L L _ OA7.out OC.out).mono ?_
      rintro e w8 ⟨rfl, b8⟩
      go_wp2_with fail
      go_ret
      exact ⟨rfl, Bel.after hBB.out b8⟩

set_option maxRecDepth 100000 in
theorem lifted (os : Os) (started : os.Started) (H : Type) (enc : TypeId × Value → H) :
    ReturnsInHanded {} Try.checked os 5 .any (Rows.fnReadsSpec.pre6 enc Try.prog Try.f5 Rows.fnReadsRow.domain false) (Rows.fnReadsSpec.post enc Try.prog Try.f5 false true false false) := by
  refine returnsInHanded_of_change (C := Try.checked) own started (by kernel_rfl) Try.func5
    (ChangeSpec.witness6 (enc := enc) (C := Try.checked) false ⟨#[], #[.slice none 0 0], []⟩ 8 (by kernel_rfl) (by kernel_rfl) (by kernel_rfl) (by kernel_rfl)) ?_
  intro W base args ds gs before hval0 hW hcnd _
  have hval : ∀ (j : Nat) t v, Try.f5.params[j]? = some t → args[j]? = some v → Value.okWide Try.prog W .any base t v := hval0
  have hW' := hW
  obtain ⟨p, q, hA0, hV, rfl, hfz, hnd⟩ := hW
  have hA : DataW.TrodAll enc Try.prog W 0 (fun _ => true) true Try.f5.params.toList args.toList ds p := hA0
  rw [Try.params5] at hA hval
  obtain ⟨v0, vs0, d0, ds0, p0, q0, hargs, rfl, rfl, h0, r0x⟩ := trodAll_cons hA
  obtain ⟨rfl, rfl, rfl⟩ := trodAll_nil r0x
  obtain rfl : args = #[v0] := by cases args; simp_all
  obtain ⟨rfl, rfl⟩ := trodVars_none hV
  have k0 := h0
  have lt0 : ∀ x ∈ p0, x.block < W.heap.size := by obtain ⟨m, hm⟩ := k0; exact DataW.trod_lt m _ _ _ hm
  obtain ⟨a0, len0, cap0, rfl⟩ := okWide_slice Try.underlying22 (hval 0 22 v0 rfl rfl)
  obtain ⟨z0, r0⟩ : ∃ zs, IsRow .u8 W a0 len0 cap0 zs := by
    obtain ⟨fuel, hf⟩ := h0
    rcases open_ints Try.underlying22 Try.underlying5 (by kernel_rfl) hf with ⟨hcs, _⟩ | ⟨x, l, c, zs, hcs, _, hl, hm, hz, _, hcell, hwz⟩
    · simp [Value.cells] at hcs
      obtain ⟨rfl, rfl, rfl⟩ := hcs
      exact ⟨[], .inl ⟨rfl, rfl, rfl, rfl⟩⟩
    · simp [Value.cells] at hcs
      obtain ⟨rfl, rfl, rfl⟩ := hcs
      exact ⟨zs, .inr ⟨_, rfl, hl, hm, by simpa using hz, hcell, hwz⟩⟩
  clear hA0 hval0
  refine (walk W a0 len0 cap0 z0 r0).mono fun e W' ⟨he, bel⟩ => ?_
  subst he
  exact ⟨_, rfl, _, _, _, [], _, [], hW', trodAll_mk1 (shut_bool Try.underlying4 _), (trodAll_cons_mk (Below.trod laidOut (by kernel_rfl) (of_decide_eq_true (by kernel_rfl)) k0 bel lt0) trodAll_mk0), rfl, bel.frame _, fun h => by cases h⟩

theorem over : Rows.fnReadsRow.holds Try.pinned (OpenSpec.ofChange Rows.fnReadsSpec) :=
  OpenClaim.holds_of_wide 5 Try.f5 rfl rfl rfl rfl rfl rfl rfl ⟨rfl, rfl, rfl, rfl, rfl⟩ rfl rfl rfl rfl rfl (by kernel_rfl) Try.func5 (by kernel_rfl)
    (of_decide_eq_true (by kernel_rfl)) (by unfold Func.isWrapper; first | (rw [if_pos (by decide +kernel)]; kernel_rfl) | (rw [if_neg (by decide +kernel)]; exact ⟨rfl, rfl⟩))
    (fun os started H enc _ => lifted os started H enc)

/-- The statement. -/
theorem proved : Rows.FnReadsSaid := over
#print axioms proved
end Go.Proofs.Ytkpddakmcnknjaa.fnReads
