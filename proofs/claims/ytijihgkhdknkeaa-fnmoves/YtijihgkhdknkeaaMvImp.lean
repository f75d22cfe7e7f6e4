/- The map of what is left: its methods. -/
import Derived.Test.YtijihgkhdknkeaaMvMap
namespace Go.Proofs.Ytijihgkhdknkeaa
open Go.ChangeShapes Go.WideShapes Go.ChangeAt Go.RowKit
set_option linter.unusedVariables false

theorem mvTaken_get {M : List (Nat × ArmD)} (h : KeysUp M) {v : Int} : mvTaken (M.map (fun p => p.2)) v = true ↔ ∃ x m, mget M x = some m ∧ m.v = v := by
  rw [mvTaken_iff]
  constructor
  · rintro ⟨y, hy, e⟩
    obtain ⟨p, hp, rfl⟩ := List.mem_map.1 hy
    exact ⟨(p.1 : Int), p.2, (mget_iff h).2 ⟨p.1, hp, rfl⟩, e⟩
  · rintro ⟨x, m, hx, e⟩
    obtain ⟨k, hk, _⟩ := (mget_iff h).1 hx
    exact ⟨m, List.mem_map.2 ⟨(k, m), hk, rfl⟩, e⟩
/-- The step over a map of moves. -/
theorem wpList_next_mv {P : Program} (w : World) {ops : Array Oper} {rest : List Oper} {o : Oper} {a : Act} {Q : Exit → Act → World → Prop} (hg : o.guard = none) (it : Operand) (hop : o.op = Op.next it false) (k : TypeId) (K : Maps.Keyed P k) (hk : P.underlying k = some (.int .i64))
    (b r n : Nat) (D : DataW Unit) (left : Lit → Bool) (cnt : Nat) (hit : a.eval it = .pointer (some ⟨r, 0, none⟩)) (h : w.ranges P k spotElem b r n D left cnt)
    (hDone : cnt = 0 → (∀ kl, left kl = false) → wpList P ops Q rest (a.put o.dst (.tuple #[.bool false])) w)
    (hMore : ∀ (x : Int) (c : ArmD) (w' : World) (cnt' : Nat), left (.int .i64 x) = true → (∀ zd, D.atKey (.int .i64 x) zd = litOf c) → w'.ranges P k spotElem b r n D (fun z => left z && !z.sameKey (.int .i64 x)) cnt' → cnt' < cnt →
      w.grownBy w' (some r) → w'.heap.size = w.heap.size → (Instr.entry (.pointer (some ⟨r, 0, none⟩))).run P w' = .ok (.tuple #[.int .i64 x, .agg #[.int .i64 c.fr, .int .i64 c.v]]) w' → wpList P ops Q rest (a.put o.dst (.tuple #[.bool true, .int .i64 x, .agg #[.int .i64 c.fr, .int .i64 c.v]])) w') :
    wpList P ops Q (o :: rest) a w :=
  wpList_next_ranges w hg it hop k K spotElem (Value.int .i64) mvVal (fun key kl hkey => by obtain ⟨x, rfl, _⟩ := Maps.keyOf_int_inv hk hkey; exact ⟨x, rfl⟩) (fun v y hv => by obtain ⟨c, rfl, _⟩ := spotElem_inv hv; exact ⟨c, rfl⟩)
    b r n D left cnt hit h hDone (fun x c kl y w' cnt' hkey hlk hv hat hrg hlt hgr hsz hen => by
      obtain ⟨x', ex, rfl, hwx⟩ := Maps.keyOf_int_inv hk hkey
      cases ex
      rw [spotElem_mk] at hv
      cases hv
      exact hMore x c w' cnt' hlk hat hrg hlt hgr hsz hen)
theorem sameKey_int (x y : Int) : (Lit.int .i64 x).sameKey (.int .i64 y) = decide (x = y) := by
  simp [Lit.sameKey]

set_option maxHeartbeats 2000000 in
theorem taken_any (mb n : Nat) (M : List (Nat × ArmD)) (v : Int) (w : World) (hm : MapF w mb n (mget M)) (hk : KeysUp M) :
    Calls Try.prog 48 #[.map (some mb), .int .i64 v] w fun e w' => GivesBool w (mvTaken (M.map (fun p => p.2)) v) e w' := by
  obtain ⟨D, hown, hrd⟩ := hm
  have HRD : Hid (ReadsF D (mget M)) := hrd
  obtain ⟨R, HR⟩ : ∃ R, Hid (mvTaken (M.map (fun p => p.2)) v = R) := ⟨_, rfl⟩
  rw [HR.out]
  have HK : Hid (KeysUp M) := hk
  clear hrd hk
  go_enter Try.func48, Try.ntmps48
  go_wp2_with (at_range; refine wpList_range_own _ rfl _ 48 rfl 3 44 keyed_int Try.underlying48 _ mb n _ rfl hown ?_; intro w0 hrg0 hg0 hs0)
  go_frame
  go_loopw [6] (fun _ wr => ∃ (left : Lit → Bool) (cnt : Nat), wr.ranges Try.prog 3 spotElem mb w.heap.size n D left cnt ∧ Below w.heap.size w wr ∧ ∀ x m, mget M x = some m → left (.int .i64 x) = false → m.v ≠ v)
    (fun _ wr => wr.rangeLeft mb w.heap.size)
  case atStart => exact ⟨_, _, hrg0, (Below.refl _ w).grown hg0 (Nat.le_refl _) (fun j e => by cases e), fun x m hx hl => by rw [HRD.out.1 x, hx] at hl; cases hl⟩
  case round =>
    obtain ⟨left, cnt, hrg, hB, hno⟩ := hrel
    have HB : Hid (Below w.heap.size w wr) := hB
    have HNO : Hid (∀ x m, mget M x = some m → left (.int .i64 x) = false → m.v ≠ v) := hno
    have HRG : Hid (wr.ranges Try.prog 3 spotElem mb w.heap.size n D left cnt) := hrg
    clear hB hno hown hrg0 hg0 hs0
    go_wp2_with (at_next; refine wpList_next_mv _ rfl _ rfl 3 keyed_int Try.underlying3 mb w.heap.size n _ _ _ rfl hrg ?_ ?_)
    · intro _ hl0
      have HL0 : Hid (∀ kl, left kl = false) := hl0
      clear hl0 hrg
      obtain rfl : R = false := by
        rw [← HR.out]
        cases h9 : mvTaken (M.map (fun p => p.2)) v with
        | false => rfl
        | true =>
          obtain ⟨x, m, hx, e⟩ := (mvTaken_get HK.out).1 h9
          exact absurd e (HNO.out x m hx (HL0.out _))
      go_wp2
      go_ret
      exact ⟨rfl, HB.out⟩
    · intro x c w1 cnt1 hlx hat hrg1 hlt hg1 hs1 hen
      have HX : Hid (mget M x = some c) := HRD.out.got hat
      have HG1 : Hid (Below w.heap.size w w1) := HB.out.grown hg1 HB.out.size (fun j e => by cases e; exact Nat.le_refl _)
      have HRG1 : Hid (w1.ranges Try.prog 3 spotElem mb w.heap.size n D (fun z => left z && !z.sameKey (.int .i64 x)) cnt1) := hrg1
      have hsz1 := HG1.out.size
      obtain ⟨cf, cv⟩ := c
      dsimp only at hen ⊢
      clear hlx hat hrg1 hg1 hs1 hrg
      by_cases hv : cv = v
      · subst hv
        have hee : (cv == cv) = true := by simp
        obtain rfl : R = true := by rw [← HR.out]; exact (mvTaken_get HK.out).2 ⟨x, _, HX.out, rfl⟩
        go_wp2
        go_ret
        exact ⟨rfl, HG1.out.alloc hsz1 _⟩
      · have hee : (cv == v) = false := by simpa using hv
        have HV : Hid (¬ cv = v) := hv
        clear hv
        go_wp2
        go_roundw
        case rel =>
          refine ⟨_, cnt1, HRG1.out.alloc _, HG1.out.alloc hsz1 _, fun y m hy hl => ?_⟩
          rw [sameKey_int] at hl
          by_cases e : y = x
          · subst e
            rw [HX.out] at hy
            cases hy
            exact HV.out
          · simp [e] at hl
            exact HNO.out y m hy hl
        case measure => rw [(HRG1.out.alloc _).left_eq, HRG.out.left_eq]; exact hlt

theorem row_ne_it {w : World} {lo : Nat} {v : Value} {l : List Int} (h : OwnInts w lo v l) {P : Program} {k : TypeId} {b r n : Nat} {D : DataW Unit} {left : Lit → Bool} {cnt : Nat} (hr : w.ranges P k spotElem b r n D left cnt) : some r ≠ v.ownBlock ∧ some b ≠ v.ownBlock := by
  obtain ⟨es, clock, since, seen, c0, hb, _, _, _, hr, _⟩ := hr
  rcases h.2 with ⟨rfl, _⟩ | ⟨g, cap, cur, rfl, _, hgb, _⟩
  · simp [Value.ownBlock]
  · refine ⟨fun e => ?_, fun e => ?_⟩
    · simp [Value.ownBlock] at e
      subst e
      rw [hr] at hgb
      cases hgb
    · simp [Value.ownBlock] at e
      subst e
      rw [hb] at hgb
      cases hgb

set_option maxHeartbeats 4000000 in
theorem places_any (mb n : Nat) (M : List (Nat × ArmD)) (w : World) (hm : MapF w mb n (mget M)) (hk : KeysUp M) (hn : n ≤ 2000) :
    Calls Try.prog 35 #[.map (some mb)] w fun e w' => GivesOwn w (keysOf M) e w' := by
  have hmlt := hm.lt
  obtain ⟨D, hown, hrd⟩ := hm
  have HRD : Hid (ReadsF D (mget M)) := hrd
  have HK : Hid (KeysUp M) := hk
  have HSZ : Hid (Maps.size D ≤ n) := by
    obtain ⟨es, ck, h1, h2, h3, h4⟩ := hown
    show _ ≤ _
    rw [h4, Maps.size_eq, length_sorted, List.length_map]
    simpa using h3
  obtain ⟨i0, hi, hz0, hz1, hz2⟩ := info_parts info_int
  have hmx : 5000 ≤ maxLen := by decide
  clear hrd hk
  go_enter Try.func35, Try.ntmps35
  go_wp2_with (at_range; refine wpList_range_own _ rfl _ 48 rfl 3 44 keyed_int Try.underlying48 _ mb n _ rfl (hown.alloc _) ?_; intro w0 hrg0 hg0 hs0)
  go_frame
  have hr0 : (w.alloc (.cells #[] 3)).heap.size = w.heap.size + 1 := by simp
  have O0 : Hid (OwnInts w0 w.heap.size (.slice (some ⟨w.heap.size, 0, none⟩) 0 0) []) := World.ownsRow.kept (ownInts_nil rfl (Nat.le_refl _)) hg0 (.inr (by simp [Value.ownBlock]))
  have B0 : Hid (Below w.heap.size w w0) := ((Below.refl w.heap.size w).alloc (Nat.le_refl _) _).grown hg0 (by simp) (fun j e => by cases e)
  obtain ⟨r, HRr⟩ : ∃ r, Hid (w.heap.size + 1 = r) := ⟨_, rfl⟩
  rw [hr0, HRr.out] at hrg0
  rw [hr0, HRr.out]
  have hle : w.heap.size ≤ r := by have := HRr.out; omega
  clear hr0 hg0 hs0
  go_loopw [3] (fun s wr => ∃ (left : Lit → Bool) (cnt : Nat) (ss : List Int), wr.ranges Try.prog 3 spotElem mb r n D left cnt ∧ OwnInts wr w.heap.size s ss ∧ s ≠ .slice none 0 0 ∧ ss.Nodup ∧ (∀ x, x ∈ ss ↔ (mget M x).isSome = true ∧ left (.int .i64 x) = false) ∧ ss.length + cnt ≤ n ∧ Below w.heap.size w wr)
    (fun _ wr => wr.rangeLeft mb r)
  case atStart => exact ⟨_, _, [], hrg0, O0.out, by simp, by simp, fun x => by rw [HRD.out.1 x]; cases (mget M x).isSome <;> simp, by simpa using HSZ.out, B0.out⟩
  case round =>
    obtain ⟨left, cnt, ss, hrg, ho, hnn, hnd, hmem, hlen, hB⟩ := hrel
    have HB : Hid (Below w.heap.size w wr) := hB
    have HO : Hid (OwnInts wr w.heap.size u3 ss) := ho
    have HNN : Hid (u3 ≠ .slice none 0 0) := hnn
    have HND : Hid (ss.Nodup) := hnd
    have HME : Hid (∀ x, x ∈ ss ↔ (mget M x).isSome = true ∧ left (.int .i64 x) = false) := hmem
    have HRG : Hid (wr.ranges Try.prog 3 spotElem mb r n D left cnt) := hrg
    have HLE : Hid (ss.length + cnt ≤ n) := hlen
    clear hB ho hnn hnd hmem hown hrg0 hlen
    go_wp2_with (at_next; refine wpList_next_mv _ rfl _ rfl 3 keyed_int Try.underlying3 mb r n _ _ _ rfl hrg ?_ ?_)
    · intro _ hl0
      have HL0 : Hid (∀ kl, left kl = false) := hl0
      clear hl0 hrg
      obtain ⟨m, HM⟩ : ∃ m, Hid (ss.length = m) := ⟨_, rfl⟩
      obtain ⟨g, gcap, hv⟩ : ∃ g gcap, u3 = .slice (some ⟨g, 0, none⟩) m gcap := by
        rcases HO.out.2 with ⟨h0, _⟩ | ⟨g, cap, cur, h0, _⟩
        · exact absurd h0 HNN.out
        · exact ⟨g, cap, by rw [h0, HM.out]⟩
      subst hv
      have hmn : m ≤ 2000 := by have := HLE.out; have := HM.out; omega
      have HS : Hid (sortI ss = keysOf M) := sort_keys HK.out HND.out (fun x => by rw [HME.out x]; simp [HL0.out])
      go_wp2_with fail
      refine (sort_any w.heap.size g gcap m ss HM.out _ HO.out hmn).mono ?_
      rw [HS.out]
      rintro e w3 ⟨⟨r, rfl⟩, o3, b3⟩
      have O3 : Hid (OwnInts w3 w.heap.size (.slice (some ⟨g, 0, none⟩) m gcap) (keysOf M)) := o3
      have B3 : Hid (Below w.heap.size w w3) := HB.out.trans b3
      clear o3 b3
      go_wp2_with fail
      go_ret
      exact ⟨_, rfl, O3.out, B3.out⟩
    · intro x c w1 cnt1 hlx hat hrg1 hlt hg1 hs1 hen
      have HX : Hid (mget M x = some c) := HRD.out.got hat
      have HLX : Hid (left (.int .i64 x) = true) := hlx
      have HG1 : Hid (Below w.heap.size w w1) := HB.out.grown hg1 HB.out.size (fun j e => by cases e; exact hle)
      have HRG1 : Hid (w1.ranges Try.prog 3 spotElem mb r n D (fun z => left z && !z.sameKey (.int .i64 x)) cnt1) := hrg1
      have HO1 : Hid (OwnInts w1 w.heap.size u3 ss) := World.ownsRow.kept HO.out hg1 (.inr (fun e => (row_ne_it HO.out HRG.out).1 e.symm))
      have hsz1 := HG1.out.size
      have HLT : Hid (cnt1 < cnt) := hlt
      obtain ⟨cf, cv⟩ := c
      dsimp only at hen ⊢
      clear hlx hat hrg1 hg1 hs1 hrg hlt
      go_wp2_with (at_builtin; refine wpList_append_own _ rfl _ _ 25 rfl w.heap.size 3 i0 (.int .i64 0) 1 8 Try.underlying25 hi hz0 hz1 hz2 rfl (by decide) _ _ _ rfl (World.ownsRow.alloc HO1.out _) ⟨w1.heap.size, 0, none⟩ 1 1 [.int .i64 x] rfl rfl (by have h := cell_one_new w1 (.int .i64 x) 3; exact h) (by simp [Value.oneCell']) (by have := HLE.out; omega) (by have := HLE.out; omega) (by simp; omega) ?_; intro v' wa hown' hgrow hnil; have HO' : Hid (OwnInts wa w.heap.size v' (ss ++ [x])) := OwnInts.next hown'; have HG : Hid (Below w.heap.size (w1.alloc _) wa) := ownsRow_under (World.ownsRow.alloc HO1.out _) (by simp; omega) hgrow; have HRA : Hid (wa.ranges Try.prog 3 spotElem mb r n D (fun z => left z && !z.sameKey (.int .i64 x)) cnt1) := (HRG1.out.alloc _).kept hgrow (row_ne_it HO1.out HRG1.out).2 (row_ne_it HO1.out HRG1.out).1; have HN' : Hid (v' ≠ .slice none 0 0) := (fun h => absurd (hnil.1 h).2 (by omega)); clear hown' hgrow hnil)
      go_roundw
      case rel =>
        refine ⟨_, cnt1, _, HRA.out, HO'.out, HN'.out, ?_, fun y => ?_, ?_, (HG1.out.alloc hsz1 _).trans HG.out⟩
        · rw [List.nodup_append]
          refine ⟨HND.out, by simp, fun a ha b hb e => ?_⟩
          simp at hb
          subst hb
          subst e
          have := ((HME.out a).1 ha).2
          rw [HLX.out] at this
          cases this
        · rw [List.mem_append, HME.out y, sameKey_int]
          by_cases e : y = x
          · subst e
            rw [HX.out]
            simp
          · simp [e]
        · rw [List.length_append]
          have := HLE.out
          have := HLT.out
          simp
          omega
      case measure => rw [HRA.out.left_eq, HRG.out.left_eq]; exact HLT.out

/-- 'm[k]' in a map of moves. -/
theorem wpList_lookup_mv {P : Program} (w : World) {ops : Array Oper} {rest : List Oper} {o : Oper} {a : Act} {Q : Exit → Act → World → Prop} (hg : o.guard = none) (m x : Operand) (t : TypeId) (hop : o.op = Op.lookup t m x false)
    (k e : TypeId) (K : Maps.Keyed P k) (hk : P.underlying k = some (.int .i64)) (ht : P.underlying t = some (.map k e)) (hz : (zeroValue e).run P w = .ok (.agg #[.int .i64 0, .int .i64 0]) w) (b n : Nat) (D : DataW Unit)
    (hm : a.eval m = .map (some b)) (hown : w.ownsMap P k spotElem b n D) (i : Int) (kl : Lit) (hx : a.eval x = .int .i64 i) (hkey : keyOf P k (.int .i64 i) = some kl) (c : ArmD) (hat : ∀ z, D.atKey (.int .i64 i) z = litOf c)
    (hK : wpList P ops Q rest (a.put o.dst (.agg #[.int .i64 c.fr, .int .i64 c.v])) w) : wpList P ops Q (o :: rest) a w := by
  refine wpList_plain hg fun K' hK' => ?_
  obtain ⟨i', ei, rfl, _⟩ := Maps.keyOf_int_inv hk hkey
  cases ei
  obtain ⟨v, ps, hrun, hv⟩ := hown.lookup K ht hz (spotElem_mk ⟨0, 0⟩) hkey
  obtain ⟨c', rfl, e2⟩ := spotElem_inv hv
  rw [hat] at e2
  obtain rfl := litOf_inj e2
  unfold Oper.wp
  simp [execOp, hop, hm, hx, hrun, Result.andThen]
  exact hK' _ _ hK
theorem zero_move (w : World) : (zeroValue 44).run Try.prog w = .ok (.agg #[.int .i64 0, .int .i64 0]) w := by
  obtain ⟨i, h1, h2, h3, h4⟩ := info_parts info_move
  simp [zeroValue, typeInfo, h1, h2, go_sem]
theorem run_field0 (a b : Int) (w : World) : (Instr.field 44 (.agg #[.int .i64 a, .int .i64 b]) 0).run Try.prog w = .ok (.int .i64 a) w := by kernel_rfl
theorem key_int {x : Int} (h : (Lit.int .i64 x).wf = true) : keyOf Try.prog 3 (.int .i64 x) = some (.int .i64 x) := Maps.keyOf_int_mk Try.underlying3 h
theorem wf_small {x : Int} (h0 : 0 ≤ x) (h1 : x ≤ 1000000) : (Lit.int .i64 x).wf = true := by
  simp [Lit.wf, IntKind.min, IntKind.max, IntKind.bits, IntKind.signed]
  omega
/-- The first one that is free is told by its place. -/
def GivesFree (w : World) (M : List (Nat × ArmD)) (e : Ending) (w' : World) : Prop :=
  (∃ (k : Int) (b : Bool), e = .returned (.tuple #[.int .i64 k, .bool b]) ∧ (b = true → ∃ i p, M[i]? = some p ∧ (p.1 : Int) = k ∧ mvFree (M.map (fun p => p.2)) = some i) ∧ (b = false → mvFree (M.map (fun p => p.2)) = none)) ∧ Below w.heap.size w w'

set_option maxHeartbeats 4000000 in
theorem free_any (mb n : Nat) (M : List (Nat × ArmD)) (pv : Value) (w : World) (hm : MapF w mb n (mget M)) (hk : KeysUp M) (hp : IntsAt w pv (keysOf M)) (h24 : ∀ p ∈ M, p.1 < 24) :
    Calls Try.prog 36 #[.map (some mb), pv] w fun e w' => GivesFree w M e w' := by
  have HM : Hid (MapF w mb n (mget M)) := hm
  have HK : Hid (KeysUp M) := hk
  have H24 : Hid (∀ p ∈ M, p.1 < 24) := h24
  obtain ⟨pa, pcap, rfl, hpm, hpc⟩ := hp
  obtain ⟨m, HL⟩ : ∃ m, Hid ((keysOf M).length = m) := ⟨_, rfl⟩
  have HML : Hid (M.length = m) := by show _ = _; rw [← HL.out]; simp [keysOf]
  rw [HL.out] at hpm hpc ⊢
  have HP : Hid (0 < m → ∃ b off, pa = some ⟨b, off, none⟩ ∧ ∀ i, i < m → w.cell? ⟨b, off + i, none⟩ = some (.int .i64 ((keysOf M).getD i 0))) := hpc
  clear hpc hm hk h24
  go_enter Try.func36, Try.ntmps36
  go_wp2
  go_loopw [10] (fun i wr => ∃ k : Nat, k ≤ m ∧ i = .int .i64 k ∧ Below w.heap.size w wr ∧ ∀ j p, j < k → M[j]? = some p → mvTaken (M.map (fun p => p.2)) p.2.fr = true) (fun i _ => m - (intOf i).toNat)
  case atStart => exact ⟨0, Nat.zero_le _, rfl, Below.refl _ _, fun j p hj => absurd hj (by omega)⟩
  case round =>
    obtain ⟨k, hk, rfl, hB, hno⟩ := hrel
    have HB : Hid (Below w.heap.size w wr) := hB
    have HNO : Hid (∀ j p, j < k → M[j]? = some p → mvTaken (M.map (fun p => p.2)) p.2.fr = true) := hno
    clear hB hno
    by_cases hlt : (k : Int) < (m : Int)
    · obtain ⟨b, off, rfl, hc1⟩ := HP.out (by omega)
      have hkl : k < M.length := by have := HML.out; omega
      obtain ⟨p, HX⟩ : ∃ p, Hid (M[k]? = some p) := ⟨M[k], List.getElem?_eq_getElem hkl⟩
      have q0 := Bel.keeps HB.out (hc1 k (by omega))
      have hgd : (keysOf M).getD k 0 = (p.1 : Int) := by
        unfold keysOf
        rw [List.getD_eq_getElem?_getD, List.getElem?_map, HX.out]
        rfl
      rw [hgd] at q0
      clear hc1 hkl hgd
      obtain ⟨pk, d, s⟩ := p
      dsimp only at q0
      have hpk : pk < 24 := H24.out _ (List.mem_of_getElem? HX.out)
      have HMW : Hid (MapF wr mb n (mget M)) := HM.out.kept HB.out
      have HGET : Hid (mget M (pk : Int) = some ⟨d, s⟩) := (mget_iff HK.out).2 ⟨pk, List.mem_of_getElem? HX.out, rfl⟩
      obtain ⟨R, HR⟩ : ∃ R, Hid (mvTaken (M.map (fun p => p.2)) d = R) := ⟨_, rfl⟩
      obtain ⟨D, hown, hrd⟩ := HMW.out
      have hat := hrd.2 _ _ HGET.out
      have hkey := key_int (wf_small (x := (pk : Int)) (by omega) (by omega))
      clear hrd
      have hf0 := run_field0 d s wr
      go_wp2_with (at_lookup; refine wpList_lookup_mv _ rfl _ _ 48 rfl 3 44 keyed_int Try.underlying3 Try.underlying48 (zero_move _) mb n D rfl hown _ _ rfl hkey _ hat ?_; clear hat hkey hown)
      refine (taken_any mb n M d _ HMW.out HK.out).mono ?_
      rw [HR.out]
      rintro e w1 ⟨rfl, b1⟩
      have B1 : Hid (Below w.heap.size w w1) := Bel.after HB.out b1
      clear b1
      cases R with
      | false =>
        go_wp2
        go_ret2
        refine ⟨⟨_, true, rfl, fun _ => ⟨k, _, HX.out, rfl, mvFree_is (x := ⟨d, s⟩) (by rw [List.getElem?_map, HX.out]; rfl) HR.out (fun j y hj hy => ?_)⟩, fun h => (by cases h)⟩, B1.out⟩
        rw [List.getElem?_map] at hy
        obtain ⟨p, hp, rfl⟩ := Option.map_eq_some_iff.1 hy
        exact HNO.out j p hj hp
      | true =>
        go_wp2
        go_roundw
        case rel =>
          refine ⟨k + 1, by omega, by go_num, B1.out, fun j p hj hp => ?_⟩
          by_cases e : j = k
          · subst e
            rw [HX.out] at hp
            cases hp
            exact HR.out
          · exact HNO.out j p (by omega) hp
        case measure => simp [intOf]; omega
    · have hkm : k = m := by omega
      subst hkm
      go_wp2
      go_ret2
      refine ⟨⟨_, false, rfl, fun h => (by cases h), fun _ => mvFree_not (fun x hx => ?_)⟩, HB.out⟩
      obtain ⟨p, hp, rfl⟩ := List.mem_map.1 hx
      obtain ⟨j, hj⟩ := List.mem_iff_getElem?.1 hp
      exact HNO.out j p (by have := (List.getElem?_eq_some_iff.1 hj).1; have := HML.out; omega) hj

theorem Fr.grownBy {p : Nat} {a w w' : World} (h : Fr p a w) (hg : w.grownBy w' (some p)) : Fr p a w' :=
  h.trans ⟨hg.os, hg.tape, hg.output, hg.size, fun k hk hp => hg.block k hk (by simpa using hp)⟩
theorem Fr.after {p : Nat} {a w w' : World} (h : Fr p a w) (hb : Below w.heap.size w w') : Fr p a w' := h.trans (Fr.ofBelow hb)
/-- The first j places are turned. -/
def turnedF (M : List (Nat × ArmD)) (v old : Int) (j : Nat) : Int → Option ArmD := fun x => if x ∈ (keysOf M).take j then (mget M x).map (mvFrom v old) else mget M x
theorem keys_at {M : List (Nat × ArmD)} {k : Nat} {p : Nat × ArmD} (h : M[k]? = some p) : (keysOf M)[k]? = some (p.1 : Int) := by
  unfold keysOf
  rw [List.getElem?_map, h]
  rfl
theorem keys_new {M : List (Nat × ArmD)} (h : KeysUp M) {k : Nat} {x : Int} (hk : (keysOf M)[k]? = some x) : x ∉ (keysOf M).take k := by
  intro hx
  have h1 := keys_up h
  rw [List.pairwise_iff_getElem] at h1
  obtain ⟨i, hi⟩ := List.mem_iff_getElem?.1 hx
  have hik : i < k := by
    have := (List.getElem?_eq_some_iff.1 hi).1
    rw [List.length_take] at this
    omega
  rw [List.getElem?_take_of_lt hik] at hi
  obtain ⟨h2, e2⟩ := List.getElem?_eq_some_iff.1 hi
  obtain ⟨h3, e3⟩ := List.getElem?_eq_some_iff.1 hk
  have := h1 i k h2 h3 hik
  omega
theorem turned_step {M : List (Nat × ArmD)} (h : KeysUp M) {v old : Int} {k : Nat} {x : Int} {m : ArmD} (hk : (keysOf M)[k]? = some x) (hm : mget M x = some m) (y : Int) : (if y = x then some (mvFrom v old m) else turnedF M v old k y) = turnedF M v old (k + 1) y := by
  unfold turnedF
  rw [take_one_more hk]
  by_cases e : y = x
  · subst e
    simp [hm]
  · simp [e]
theorem turned_same {M : List (Nat × ArmD)} (h : KeysUp M) {v old : Int} {k : Nat} {x : Int} {m : ArmD} (hk : (keysOf M)[k]? = some x) (hm : mget M x = some m) (hs : mvFrom v old m = m) (y : Int) : turnedF M v old k y = turnedF M v old (k + 1) y := by
  rw [← turned_step h hk hm]
  by_cases e : y = x
  · subst e
    unfold turnedF
    rw [if_pos rfl, if_neg (keys_new h hk), hm, hs]
  · rw [if_neg e]
theorem turned_all {M : List (Nat × ArmD)} (h : KeysUp M) {v old : Int} {k : Nat} (hk : M.length ≤ k) (y : Int) : turnedF M v old k y = mget (M.map (fun p => (p.1, mvFrom v old p.2))) y := by
  rw [mget_map h]
  unfold turnedF
  rw [List.take_of_length_le (by simp [keysOf]; exact hk)]
  split
  · rfl
  · rename_i hn
    rw [keys_mem h] at hn
    cases hg : mget M y with
    | none => rfl
    | some m => rw [hg] at hn; exact absurd rfl hn
def GivesTurned (w : World) (mb n : Nat) (M : List (Nat × ArmD)) (e : Ending) (w' : World) : Prop := (∃ r, e = .returned r) ∧ Fr mb w w' ∧ MapF w' mb n (mget M)
theorem MapF.mono {w : World} {mb n n' : Nat} {f : Int → Option ArmD} (h : MapF w mb n f) (hn : n ≤ n') : MapF w mb n' f := by
  obtain ⟨D, h1, h2⟩ := h
  exact ⟨D, h1.mono hn, h2⟩

set_option maxHeartbeats 4000000 in
theorem takeFrom_any (mb n : Nat) (M : List (Nat × ArmD)) (v old : Int) (w : World) (hm : MapF w mb n (mget M)) (hk : KeysUp M) (h24 : ∀ p ∈ M, p.1 < 24) (hn : n + M.length ≤ 2000) :
    Calls Try.prog 37 #[.map (some mb), .int .i64 v, .int .i64 old] w fun e w' => GivesTurned w mb (n + M.length) (M.map (fun p => (p.1, mvFrom v old p.2))) e w' := by
  have HM : Hid (MapF w mb n (mget M)) := hm
  have HK : Hid (KeysUp M) := hk
  have H24 : Hid (∀ p ∈ M, p.1 < 24) := h24
  have hmb := hm.lt
  obtain ⟨m, HL⟩ : ∃ m, Hid ((keysOf M).length = m) := ⟨_, rfl⟩
  have HML : Hid (M.length = m) := by show _ = _; rw [← HL.out]; simp [keysOf]
  rw [HML.out] at hn ⊢
  have hmx : 5000 ≤ maxLen := by decide
  clear hm hk h24
  go_enter Try.func37, Try.ntmps37
  go_wp2_with fail
  refine (places_any mb n M _ HM.out HK.out (by omega)).mono ?_
  rintro e w1 ⟨pv, rfl, o1, b1⟩
  have O1 : Hid (OwnInts w1 w.heap.size pv (keysOf M)) := o1
  have F1 : Hid (Fr mb w w1) := Fr.ofBelow b1
  have M1 : Hid (MapF w1 mb n (mget M)) := HM.out.kept b1
  obtain ⟨pa, pcap, rfl, _⟩ := o1.row
  rw [HL.out] at O1 ⊢
  have hs1 := b1.size
  clear o1 b1
  go_wp2_with fail
  go_loopw [12] (fun i wr => ∃ k : Nat, k ≤ m ∧ i = .int .i64 k ∧ OwnInts wr w.heap.size (.slice pa m pcap) (keysOf M) ∧ Fr mb w wr ∧ MapF wr mb (n + k) (turnedF M v old k)) (fun i _ => m - (intOf i).toNat)
  case atStart => exact ⟨0, Nat.zero_le _, rfl, O1.out, F1.out, M1.out.congr (fun x => by unfold turnedF; simp)⟩
  case round =>
    obtain ⟨k, hk, rfl, ho, hF, hMp⟩ := hrel
    have HO : Hid (OwnInts wr w.heap.size (.slice pa m pcap) (keysOf M)) := ho
    have HF : Hid (Fr mb w wr) := hF
    have HMP : Hid (MapF wr mb (n + k) (turnedF M v old k)) := hMp
    clear hF hMp
    by_cases hlt : (k : Int) < (m : Int)
    · have hkl : k < M.length := by have := HML.out; omega
      obtain ⟨p, HX⟩ : ∃ p, Hid (M[k]? = some p) := ⟨M[k], List.getElem?_eq_getElem hkl⟩
      have HKE : Hid ((keysOf M)[k]? = some (p.1 : Int)) := keys_at HX.out
      obtain ⟨a9, c9, e9, hrow⟩ := ho.row
      obtain ⟨g, hpa, hglo, hglt, hcell, _⟩ := hrow (by have := HL.out; omega)
      have hpa2 : pa = some ⟨g, 0, none⟩ := by simp at e9; rw [e9.1]; exact hpa
      subst hpa2
      have q0 := hcell k (by have := HL.out; omega)
      have hgd : (keysOf M).getD k 0 = (p.1 : Int) := by rw [List.getD_eq_getElem?_getD, HKE.out]; rfl
      rw [hgd] at q0
      clear hkl hgd ho hrow hcell e9 hpa a9 c9
      obtain ⟨pk, d, s⟩ := p
      dsimp only at q0
      have hpk : pk < 24 := H24.out _ (List.mem_of_getElem? HX.out)
      have HGET : Hid (mget M (pk : Int) = some ⟨d, s⟩) := (mget_iff HK.out).2 ⟨pk, List.mem_of_getElem? HX.out, rfl⟩
      have HTG : Hid (turnedF M v old k (pk : Int) = some ⟨d, s⟩) := by
        show _ = _
        unfold turnedF
        rw [if_neg (keys_new HK.out HKE.out)]
        exact HGET.out
      obtain ⟨D, hown, hrd⟩ := HMP.out
      have hat := hrd.2 _ _ HTG.out
      have hkey := key_int (wf_small (x := (pk : Int)) (by omega) (by omega))
      have HKEY : Hid (keyOf Try.prog 3 (.int .i64 (pk : Int)) = some (.int .i64 (pk : Int))) := hkey
      have HOWN : Hid (wr.ownsMap Try.prog 3 spotElem mb (n + k) D) := hown
      have HRD : Hid (ReadsF D (turnedF M v old k)) := hrd
      have hszr := HF.out.size
      clear hrd
      by_cases hs : s = old
      · subst hs
        have hee : (s == s) = true := by simp
        go_wp2_with (first | (at_lookup; refine wpList_lookup_mv _ rfl _ _ 48 rfl 3 44 keyed_int Try.underlying3 Try.underlying48 (zero_move _) mb _ D rfl hown _ _ rfl hkey _ hat ?_; clear hat hkey hown) | (at_mapUpdate; refine wpList_mapUpdate_own _ rfl _ _ _ 48 rfl 3 44 keyed_int Try.underlying48 _ mb _ D rfl (HOWN.out.alloc _) (by omega) _ _ _ rfl rfl HKEY.out _ _ (spotElem_mk ⟨d, v⟩) ?_; intro w2 hown2 hg2; have HOWN2 : Hid (w2.ownsMap Try.prog 3 spotElem mb (n + k + 1) (D.put (.int .i64 (pk : Int)) (litOf ⟨d, v⟩))) := hown2; have HG2 : Hid (World.grownBy _ w2 (some mb)) := hg2; clear hown2 hg2))
        go_roundw
        case rel =>
          refine ⟨k + 1, by omega, by go_num, OwnInts.grownBy (World.ownsRow.alloc HO.out _) HG2.out (HMP.out.kept (Bel.alloc _ _)).isMap, (HF.out.alloc _).grownBy HG2.out, ?_⟩
          refine MapF.congr ⟨_, HOWN2.out, HRD.out.put (isMap_of HOWN.out) _ _⟩ (fun y => ?_)
          have h9 := turned_step HK.out (v := v) (old := s) HKE.out HGET.out y
          rw [show mvFrom v s ⟨d, s⟩ = ⟨d, v⟩ by simp [mvFrom]] at h9
          exact h9
        case measure => simp [intOf]; omega
      · have hee : (s == old) = false := by simpa using hs
        have HS : Hid (¬ s = old) := hs
        clear hs
        go_wp2_with (at_lookup; refine wpList_lookup_mv _ rfl _ _ 48 rfl 3 44 keyed_int Try.underlying3 Try.underlying48 (zero_move _) mb _ D rfl hown _ _ rfl hkey _ hat ?_; clear hat hkey hown)
        go_roundw
        case rel =>
          refine ⟨k + 1, by omega, by go_num, World.ownsRow.alloc HO.out _, HF.out.alloc _, ?_⟩
          refine MapF.congr ((HMP.out.kept (Bel.alloc _ _)).mono (by omega)) (fun y => turned_same HK.out HKE.out HGET.out ?_ y)
          unfold mvFrom
          rw [if_neg HS.out]
        case measure => simp [intOf]; omega
    · have hkm : k = m := by omega
      subst hkm
      clear ho
      go_wp2
      go_end0
      exact ⟨⟨_, rfl⟩, HF.out, HMP.out.congr (turned_all HK.out (by have := HML.out; omega))⟩
end Go.Proofs.Ytijihgkhdknkeaa
