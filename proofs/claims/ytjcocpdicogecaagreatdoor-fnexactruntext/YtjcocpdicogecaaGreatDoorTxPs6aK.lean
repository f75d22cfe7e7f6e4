/- A step of a line, read by the model: the walk. -/
import Derived.Test.YtjcocpdicogecaaGreatDoorKTx2
namespace Go.Proofs.YtjcocpdicogecaaGreatDoor
open Go.ChangeShapes Go.WideShapes Go.ChangeAt Go.RowKit
set_option linter.unusedVariables false

theorem words_head {l : List UInt8} : ∃ wd, (spl 32 l)[0]? = some wd ∧ (spl 32 l).headD [] = wd := by
  cases h : spl 32 l with
  | nil => exact absurd h (spl_ne 32 l)
  | cons a r => exact ⟨a, rfl, rfl⟩

theorem spl_len {s : UInt8} : ∀ {l wd : List UInt8}, wd ∈ spl s l → wd.length ≤ l.length
  | [], wd, h => by simp [spl] at h; subst h; simp
  | c :: r, wd, h => by
    unfold spl at h
    split at h
    · rcases List.mem_cons.1 h with rfl | h
      · simp
      · exact Nat.le_succ_of_le (spl_len h)
    · split at h
      · rename_i p ps e
        have ih : ∀ q ∈ p :: ps, q.length ≤ r.length := fun q hq => spl_len (s := s) (by rw [e]; exact hq)
        rcases List.mem_cons.1 h with rfl | h
        · have := ih p List.mem_cons_self; simp; omega
        · have := ih wd (List.mem_cons_of_mem _ h); simp; omega
      · simp at h; subst h; simp
theorem words_len {l wd : List UInt8} {j : Nat} (hl : l.length ≤ 1048576) (h : (spl 32 l)[j]? = some wd) : wd.length ≤ 1048576 :=
  Nat.le_trans (spl_len (List.mem_of_getElem? h)) hl

set_option maxRecDepth 100000 in
set_option maxHeartbeats 4000000 in
theorem l17Step_lo (l : List UInt8) (w : World) (hl : l.length ≤ 1048576) (hc : opOfL ((spl 32 l).headD []) = 1 ∨ opOfL ((spl 32 l).headD []) = 3 ∨ opOfL ((spl 32 l).headD []) = 8 ∨ opOfL ((spl 32 l).headD []) = 2 ∨ opOfL ((spl 32 l).headD []) = 5) :
    Calls Tryz.prog 16 #[.string (bs l)] w fun e w' => GivesLine w l e w' := by
  obtain ⟨S, HS⟩ : ∃ S, Hid (w.heap.size = S) := ⟨_, rfl⟩
  obtain ⟨w0, hw0⟩ : ∃ W, w.alloc (.cells #[.int .i64 0, .int .i64 0, .int .i64 0, .int .i64 0, .int .i64 0] 36) = W := ⟨_, rfl⟩
  have HB0 : Hid (Below S w w0) := by show Below _ _ _; rw [← hw0, ← HS.out]; exact Bel.alloc _ _
  have HA0 : Hid (SBx w0 S 0 0 0 0 0) := by show SBx _ _ _ _ _ _ _; rw [← hw0, ← HS.out]; exact SBx.new w _ _ _ _ _
  have HZ0 : Hid (w0.heap.size = S + 1) := by show _ = _; rw [← hw0, ← HS.out]; simp
  have HLL : Hid (l.length ≤ 1048576) := hl
  have HXC : Hid (opOfL ((spl 32 l).headD []) = 1 ∨ opOfL ((spl 32 l).headD []) = 3 ∨ opOfL ((spl 32 l).headD []) = 8 ∨ opOfL ((spl 32 l).headD []) = 2 ∨ opOfL ((spl 32 l).headD []) = 5) := hc
  clear hl hc
  go_enter Tryz.func16, Tryz.ntmps16
  go_wp2_with fail
  try rw [hw0]
  try rw [HS.out]
  clear hw0
  refine (l17Words_any l _ HLL.out).mono ?_
  rintro e w1 ⟨v, rfl, ho, b1⟩
  obtain ⟨a, c, rfl, hrow⟩ := ho.row
  obtain ⟨g, rfl, hg1, hg2, hcells⟩ := hrow (List.length_pos_iff.2 (spl_ne 32 l))
  obtain ⟨wd, hwd, hhd⟩ := words_head (l := l)
  have c0 := hcells 0 wd hwd
  have HHD : Hid ((spl 32 l).headD [] = wd) := hhd
  have HO1 : Hid (OwnTxts w1 (S + 1) (.slice (some ⟨g, 0, none⟩) (spl 32 l).length c) (spl 32 l)) := by rw [HZ0.out] at ho; exact ho
  have HB1 : Hid (Below S w w1) := HB0.out.trans (b1.mono (by rw [HZ0.out]; omega))
  have HA1 : Hid (SBx w1 S 0 0 0 0 0) := HA0.out.keep b1
  have HG1 : Hid (g < w1.heap.size) := hg2
  clear ho b1 hrow hcells hg1 hg2 hhd hwd
  have hN : (0 : Int) < ((spl 32 l).length : Int) := Int.ofNat_lt.2 (List.length_pos_iff.2 (spl_ne 32 l))
  obtain ⟨N, HN⟩ : ∃ N, Hid ((spl 32 l).length = N) := ⟨_, rfl⟩
  rw [HN.out] at hN ⊢
  rw [HN.out] at HO1
  go_wp2_with fail
  refine (l17Op_any wd _).mono ?_
  rintro e w2 ⟨rfl, b2⟩
  obtain ⟨op, HOP⟩ : ∃ op : Int, Hid (((opOfL wd : Nat) : Int) = op) := ⟨_, rfl⟩
  rw [HOP.out]
  have HO2 : Hid (OwnTxts w2 (S + 1) (.slice (some ⟨g, 0, none⟩) N c) (spl 32 l)) := HO1.out.keep b2
  have HB2 : Hid (Below S w w2) := HB1.out.trans (b2.mono (Nat.le_of_lt HA1.out.lt))
  have HA2 : Hid (SBx w2 S 0 0 0 0 0) := HA1.out.keep b2
  have HG2 : Hid (g < w2.heap.size) := Nat.lt_of_lt_of_le HG1.out b2.size
  have HSR : Hid (S < w2.heap.size) := HA2.out.lt
  clear b2 c0
  obtain ⟨R, HR⟩ : ∃ R, Hid (w2.heap.size = R) := ⟨_, rfl⟩
  rw [HR.out] at HSR HG2
  obtain ⟨i0, hi, hz0, hz1, hz2⟩ := info_parts info_intP
  go_wp2_with fail
  try rw [HR.out]
  obtain ⟨w2a, hw2a⟩ : ∃ W, w2.alloc (.cells #[.int .i64 op, .int .i64 0, .int .i64 0, .int .i64 0, .int .i64 0] 36) = W := ⟨_, rfl⟩
  obtain ⟨w2b, hw2b⟩ : ∃ W, w2a.alloc (.cells #[] 3) = W := ⟨_, rfl⟩
  have HST : Hid (LineSt l w S R (.slice (some ⟨g, 0, none⟩) N c) op 0 [] 0 (.slice (some ⟨R + 1, 0, none⟩) 0 0) w2b) := by
    have e1 : Below w2.heap.size w2 w2a := by rw [← hw2a]; exact Bel.alloc _ _
    have e2 : Below w2a.heap.size w2a w2b := by rw [← hw2b]; exact Bel.alloc _ _
    have e3 : w2a.heap.size = R + 1 := by rw [← hw2a]; simp [HR.out]
    have e4 : SBx w2a R op 0 0 0 0 := by rw [← hw2a, ← HR.out]; exact SBx.new _ _ _ _ _ _
    have e5 : OwnInts w2b (R + 1) (.slice (some ⟨R + 1, 0, none⟩) 0 0) [] := by rw [← hw2b, ← e3]; exact ownInts_new _
    exact ⟨Nat.zero_le _, by omega, e5, by simp, .none, (HO2.out.keep e1).keep e2, (fun g' hg' => by cases hg'; exact HG2.out), e4.keep e2, (HA2.out.keep e1).keep e2, HSR.out, (HB2.out.trans (e1.mono (by rw [HR.out]; exact Nat.le_of_lt HSR.out))).trans (e2.mono (by rw [e3]; have := HSR.out; omega))⟩
  clear HO2 HB2 HA2 HG2 HSR HO1 HB1 HA1 HG1 HB0 HA0 HZ0
  rw [hw2a, hw2b]
  clear hw2a hw2b
  go_loopw [6, 7] (fun ov iv wr => LineRel l w S R (.slice (some ⟨g, 0, none⟩) N c) op ov iv wr) (fun _ iv _ => 10 - (intOf iv).toNat)
  case atStart => exact ⟨0, [], 0, _, _, _, rfl, rfl, HST.out⟩
  case round =>
    obtain ⟨k, rs, n, va, vn, vc, rfl, rfl, hst⟩ := hrel
    have HST2 : Hid (LineSt l w S R (.slice (some ⟨g, 0, none⟩) N c) op k rs n (.slice va vn vc) wr) := hst
    clear hst
    obtain ⟨j, HJ⟩ : ∃ j, Hid (k + 1 = j) := ⟨_, rfl⟩
    rw [HJ.out]
    by_cases hjn : j < N ∧ j < 5
    · obtain ⟨h1, h2⟩ := hjn
      have HJN : Hid (j < N) := h1
      have HJ5 : Hid (j < 5) := h2
      have hlt1 : (j : Int) < (N : Int) := Int.ofNat_lt.2 h1
      have hlt2 : (j : Int) < 5 := Int.ofNat_lt.2 h2
      obtain ⟨wd2, q1, q2⟩ := HST2.out.word (by rw [List.length_tail, HN.out]; have := HJ.out; omega)
      rw [HJ.out] at q1
      have HQ2 : Hid ((spl 32 l).tail[k]? = some wd2) := q2
      have HQ1 : Hid ((spl 32 l)[j]? = some wd2) := q1
      have c1 := HST2.out.words.cellAt q1
      have HM : Hid (rs.length + 1 ≤ maxLen ∧ (rs.length + 1) * 8 ≤ 140737488355328) := regs_max HST2.out.len HST2.out.k4
      have HVN : Hid (vn = rs.length) := HST2.out.regs.len
      have hwk : wrap64 ((j : Int) + 1) = (j : Int) + 1 := by unfold wrap64; omega
      have HK4 : Hid (k < 4) := by have := HJ.out; show _ < _; omega
      have HWL : Hid (wd2.length ≤ 1048576) := words_len HLL.out q1
      clear h1 h2 q1 q2
      go_wp2_with fail
      refine (l17Tail_any wd2 114 _ HWL.out).mono ?_
      rintro e w3 ⟨x, ok, rfl, hy, hn, b3⟩
      have HY3 : Hid (ok = true → R64 x ∧ wd2 = 114 :: Lib.itoa x) := hy
      have HN3 : Hid (ok = false → ∀ y, R64 y → wd2 ≠ 114 :: Lib.itoa y) := hn
      have HS3 : Hid (LineSt l w S R (.slice (some ⟨g, 0, none⟩) N c) op k rs n (.slice va vn vc) w3) := HST2.out.keep b3
      have c3 := HS3.out.words.cellAt HQ1.out
      clear hy hn b3 c1 HST2
      cases ok with
      | true =>
        clear HN3
        go_wp2_with (at_builtin; refine wpList_append_own _ rfl _ _ 28 rfl (R + 1) 3 i0 (.int .i64 0) 1 8 Tryz.underlying28 hi hz0 hz1 hz2 rfl (by decide) _ rs.length (rs.map (fun x => Value.int .i64 x)) rfl (World.ownsRow.alloc HS3.out.regs _) ⟨w3.heap.size, 0, none⟩ 1 1 [.int .i64 x] rfl rfl (cells_oneT w3 _ _) (by simp [Value.oneCell']) HM.out.1 HM.out.2 (base_le _ HS3.out.box.lt) ?_; intro v' wb hown' hgrow hnil; have HO' : Hid (OwnInts wb (R + 1) v' (rs ++ [x])) := OwnInts.more rfl hown'; have HGR : Hid (Below (R + 1) (w3.alloc _) wb) := ownsRow_underF (World.ownsRow.alloc HS3.out.regs _) (base_le _ HS3.out.box.lt) hgrow; clear hown' hgrow hnil)
        try rw [hwk]
        go_roundw
        case rel => exact LineRel.reg HS3.out HJ.out HQ2.out HK4.out (HY3.out (by trivial)) HO'.out HGR.out
        case measure => exact meas_ten HJ5.out
      | false =>
        clear HY3
        go_wp2_with fail
        refine (l17Tail_any wd2 115 _ HWL.out).mono ?_
        rintro e w4 ⟨x4, ok4, rfl, hy, hn, b4⟩
        have HY4 : Hid (ok4 = true → R64 x4 ∧ wd2 = 115 :: Lib.itoa x4) := hy
        have HN4 : Hid (ok4 = false → ∀ y, R64 y → wd2 ≠ 115 :: Lib.itoa y) := hn
        have HS4 : Hid (LineSt l w S R (.slice (some ⟨g, 0, none⟩) N c) op k rs n (.slice va vn vc) w4) := HS3.out.keep b4
        have c4 := HS4.out.words.cellAt HQ1.out
        clear hy hn b4 c3 HS3
        cases ok4 with
        | true =>
          clear HN4
          obtain ⟨d0, d1, d2, d3, d4⟩ := HS4.out.box.at
          have dz := HS4.out.box.fz 4
          go_wp2_with fail
          try rw [hwk]
          go_roundw
          case rel => exact LineRel.num HS4.out HJ.out HQ2.out HK4.out ⟨(HY4.out (by trivial)).1, .inl (HY4.out (by trivial)).2⟩
          case measure => exact meas_ten HJ5.out
        | false =>
          clear HY4
          go_wp2_with fail
          refine (l17Num_any wd2 _ HWL.out).mono ?_
          rintro e w5 ⟨x5, ok5, rfl, hy, hn, b5⟩
          have HY5 : Hid (ok5 = true → R64 x5 ∧ Lib.itoa x5 = wd2) := hy
          have HN5 : Hid (ok5 = false → ∀ y, R64 y → Lib.itoa y ≠ wd2) := hn
          have HS5 : Hid (LineSt l w S R (.slice (some ⟨g, 0, none⟩) N c) op k rs n (.slice va vn vc) w5) := HS4.out.keep b5
          clear hy hn b5 c4 HS4
          cases ok5 with
          | true =>
            clear HN5
            obtain ⟨d0, d1, d2, d3, d4⟩ := HS5.out.box.at
            have dz := HS5.out.box.fz 4
            go_wp2_with fail
            try rw [hwk]
            go_roundw
            case rel => exact LineRel.num HS5.out HJ.out HQ2.out HK4.out ⟨(HY5.out (by trivial)).1, .inr (HY5.out (by trivial)).2⟩
            case measure => exact meas_ten HJ5.out
          | false =>
            clear HY5
            obtain ⟨d0, d1, d2, d3, d4⟩ := HS5.out.ans.at
            have z0 := HS5.out.ans.fz 0
            have z1 := HS5.out.ans.fz 1
            have z2 := HS5.out.ans.fz 2
            have z3 := HS5.out.ans.fz 3
            have z4 := HS5.out.ans.fz 4
            have HNO : Hid (∀ y, ¬ IsLine l y) := line_word HQ2.out (HN3.out (by trivial)) (HN4.out (by trivial)) (HN5.out (by trivial))
            go_wp2_with fail
            refine bodyPost_ret (v := .tuple #[.agg #[.int .i64 0, .int .i64 0, .int .i64 0, .int .i64 0, .int .i64 0], .bool false]) (results_line Tryz.results16 _ _ rfl rfl (HS5.out.ans.five 0 0 0 0 0)) rfl ⟨⟨0, 0, 0, 0, 0⟩, false, rfl, (fun h => by cases h), fun _ => HNO.out, ?_⟩
            rw [HS.out]
            exact below_fiveB HS5.out.below (Nat.le_refl _) _ _ _ _ _
    · have HW4 : Hid (WordsTo ((spl 32 l).tail.take 4) rs n) := HST2.out.full (fun h1 h2 => hjn (by rw [List.length_tail, HN.out] at h1; have := HJ.out; omega))
      have HM3 : Hid (rs.length + 3 ≤ maxLen ∧ (rs.length + 3) * 8 ≤ 140737488355328) := regs_max3 HST2.out.len HST2.out.k4
      have HNR : Hid (-9223372036854775808 ≤ n ∧ n ≤ 9223372036854775807) := wordsTo_r HW4.out
      have HOR : Hid (-9223372036854775808 ≤ op ∧ op ≤ 9223372036854775807) := op_r HOP.out
      have HVN : Hid (vn = rs.length) := HST2.out.regs.len
      have HSR2 : Hid (S < R) := HST2.out.lo
      obtain ⟨M, HMM⟩ : ∃ M, Hid (rs.length + 3 = M) := ⟨_, rfl⟩
      obtain ⟨f0, f1, f2⟩ := three_lt HMM.out
      have hways : ¬ (j : Int) < (N : Int) ∨ ((j : Int) < (N : Int) ∧ ¬ (j : Int) < 5) := by
        by_cases h : (j : Int) < (N : Int)
        · exact .inr ⟨h, fun h2 => hjn ⟨Int.ofNat_lt.1 h, Int.ofNat_lt.1 h2⟩⟩
        · exact .inl h
      clear hjn
      rcases op_ways op with rfl | rfl | rfl | rfl | rfl | rfl | rfl | rfl | rfl | rfl | ⟨e1, e2, e3, e4, e5, e6, e7, e8, e10, e11⟩
      all_goals rcases hways with hn1 | ⟨hn1, hn2⟩
      · go_wp2_with (at_builtin; refine wpList_append_own _ rfl _ _ 28 rfl (R + 1) 3 i0 (.int .i64 0) 1 8 Tryz.underlying28 hi hz0 hz1 hz2 rfl (by decide) _ rs.length (rs.map (fun x => Value.int .i64 x)) rfl (World.ownsRow.alloc HST2.out.regs _) ⟨wr.heap.size, 0, none⟩ 3 3 [.int .i64 0, .int .i64 0, .int .i64 0] rfl rfl (cells_threeI wr _) (by simp [Value.oneCell']) HM3.out.1 HM3.out.2 (base_le _ HST2.out.box.lt) ?_; intro v' wb hown' hgrow hnil; obtain ⟨g6, c6, rfl, hlo6, r0, r1, r2⟩ := regs_cells HMM.out hown'; obtain ⟨hne1, hne2⟩ := apart_of hlo6; clear hlo6; have HGR : Hid (Below (R + 1) (wr.alloc _) wb) := ownsRow_underF (World.ownsRow.alloc HST2.out.regs _) (base_le _ HST2.out.box.lt) hgrow; have HBX : Hid (SBx wb R 1 0 0 0 n) := HST2.out.boxB HGR.out; have HAN : Hid (SBx wb S 0 0 0 0 0) := HST2.out.ansB HGR.out; have HBW : Hid (Below S w wb) := HST2.out.belowB HGR.out; obtain ⟨d0, d1, d2, d3, d4⟩ := HBX.out.at; have dz1 := HBX.out.fz 1; have dz2 := HBX.out.fz 2; have dz3 := HBX.out.fz 3; clear hown' hgrow hnil)
        refine (spec_stepText _ _ _ _ _ _ HOR.out HNR.out).mono ?_
        rintro e w8 ⟨rfl, b8⟩
        have HX8 : Hid (SBx w8 R 1 (regW rs 0) (0) (0) n) := SBx.keep (by have h9 := HBX.out; unfold SBx at h9 ⊢; simp [World.setCell, Array.getElem?_modify, h9]) b8
        have HA8 : Hid (SBx w8 S 0 0 0 0 0) := SBx.keep (SBx.sets HAN.out HSR2.out (by repeat (first | exact Sets.none | refine Sets.more ?_ _ _))) b8
        have HB8 : Hid (Below S w w8) := Below.trans (Below.sets HBW.out HSR2.out (by repeat (first | exact Sets.none | refine Sets.more ?_ _ _))) (b8.mono (Nat.le_of_lt (SBx.sets HAN.out HSR2.out (by repeat (first | exact Sets.none | refine Sets.more ?_ _ _))).lt))
        have HSW : Hid (stepW 1 rs n = ⟨1, regW rs 0, 0, 0, n⟩) := by show _ = _; simp [stepW]
        clear b8 d0 d1 d2 d3 d4 dz1 dz2 dz3 r0 r1 r2
        obtain ⟨T, HT⟩ : ∃ T, Hid (textX ⟨1, regW rs 0, 0, 0, n⟩ = T) := ⟨_, rfl⟩
        rw [HT.out]
        obtain ⟨d0, d1, d2, d3, d4⟩ := HX8.out.at
        obtain ⟨a0, a1, a2, a3, a4⟩ := HA8.out.at
        have z0 := HA8.out.fz 0
        have z1 := HA8.out.fz 1
        have z2 := HA8.out.fz 2
        have z3 := HA8.out.fz 3
        have z4 := HA8.out.fz 4
        go_wp2_with fail
        all_goals exact bodyPost_ret (v := .tuple #[.agg #[.int .i64 1, .int .i64 (regW rs 0), .int .i64 (0), .int .i64 (0), .int .i64 n], .bool _]) (results_line Tryz.results16 _ _ rfl rfl (HA8.out.five 1 (regW rs 0) (0) (0) n)) rfl (line_end (by rw [HHD.out]; exact HOP.out) HW4.out HSW.out HT.out (by first | rfl | simp_all) (by rw [HS.out]; exact below_fiveB HB8.out (Nat.le_refl _) _ _ _ _ _))
      · go_wp2_with (at_builtin; refine wpList_append_own _ rfl _ _ 28 rfl (R + 1) 3 i0 (.int .i64 0) 1 8 Tryz.underlying28 hi hz0 hz1 hz2 rfl (by decide) _ rs.length (rs.map (fun x => Value.int .i64 x)) rfl (World.ownsRow.alloc HST2.out.regs _) ⟨wr.heap.size, 0, none⟩ 3 3 [.int .i64 0, .int .i64 0, .int .i64 0] rfl rfl (cells_threeI wr _) (by simp [Value.oneCell']) HM3.out.1 HM3.out.2 (base_le _ HST2.out.box.lt) ?_; intro v' wb hown' hgrow hnil; obtain ⟨g6, c6, rfl, hlo6, r0, r1, r2⟩ := regs_cells HMM.out hown'; obtain ⟨hne1, hne2⟩ := apart_of hlo6; clear hlo6; have HGR : Hid (Below (R + 1) (wr.alloc _) wb) := ownsRow_underF (World.ownsRow.alloc HST2.out.regs _) (base_le _ HST2.out.box.lt) hgrow; have HBX : Hid (SBx wb R 1 0 0 0 n) := HST2.out.boxB HGR.out; have HAN : Hid (SBx wb S 0 0 0 0 0) := HST2.out.ansB HGR.out; have HBW : Hid (Below S w wb) := HST2.out.belowB HGR.out; obtain ⟨d0, d1, d2, d3, d4⟩ := HBX.out.at; have dz1 := HBX.out.fz 1; have dz2 := HBX.out.fz 2; have dz3 := HBX.out.fz 3; clear hown' hgrow hnil)
        refine (spec_stepText _ _ _ _ _ _ HOR.out HNR.out).mono ?_
        rintro e w8 ⟨rfl, b8⟩
        have HX8 : Hid (SBx w8 R 1 (regW rs 0) (0) (0) n) := SBx.keep (by have h9 := HBX.out; unfold SBx at h9 ⊢; simp [World.setCell, Array.getElem?_modify, h9]) b8
        have HA8 : Hid (SBx w8 S 0 0 0 0 0) := SBx.keep (SBx.sets HAN.out HSR2.out (by repeat (first | exact Sets.none | refine Sets.more ?_ _ _))) b8
        have HB8 : Hid (Below S w w8) := Below.trans (Below.sets HBW.out HSR2.out (by repeat (first | exact Sets.none | refine Sets.more ?_ _ _))) (b8.mono (Nat.le_of_lt (SBx.sets HAN.out HSR2.out (by repeat (first | exact Sets.none | refine Sets.more ?_ _ _))).lt))
        have HSW : Hid (stepW 1 rs n = ⟨1, regW rs 0, 0, 0, n⟩) := by show _ = _; simp [stepW]
        clear b8 d0 d1 d2 d3 d4 dz1 dz2 dz3 r0 r1 r2
        obtain ⟨T, HT⟩ : ∃ T, Hid (textX ⟨1, regW rs 0, 0, 0, n⟩ = T) := ⟨_, rfl⟩
        rw [HT.out]
        obtain ⟨d0, d1, d2, d3, d4⟩ := HX8.out.at
        obtain ⟨a0, a1, a2, a3, a4⟩ := HA8.out.at
        have z0 := HA8.out.fz 0
        have z1 := HA8.out.fz 1
        have z2 := HA8.out.fz 2
        have z3 := HA8.out.fz 3
        have z4 := HA8.out.fz 4
        go_wp2_with fail
        all_goals exact bodyPost_ret (v := .tuple #[.agg #[.int .i64 1, .int .i64 (regW rs 0), .int .i64 (0), .int .i64 (0), .int .i64 n], .bool _]) (results_line Tryz.results16 _ _ rfl rfl (HA8.out.five 1 (regW rs 0) (0) (0) n)) rfl (line_end (by rw [HHD.out]; exact HOP.out) HW4.out HSW.out HT.out (by first | rfl | simp_all) (by rw [HS.out]; exact below_fiveB HB8.out (Nat.le_refl _) _ _ _ _ _))
      · go_wp2_with (at_builtin; refine wpList_append_own _ rfl _ _ 28 rfl (R + 1) 3 i0 (.int .i64 0) 1 8 Tryz.underlying28 hi hz0 hz1 hz2 rfl (by decide) _ rs.length (rs.map (fun x => Value.int .i64 x)) rfl (World.ownsRow.alloc HST2.out.regs _) ⟨wr.heap.size, 0, none⟩ 3 3 [.int .i64 0, .int .i64 0, .int .i64 0] rfl rfl (cells_threeI wr _) (by simp [Value.oneCell']) HM3.out.1 HM3.out.2 (base_le _ HST2.out.box.lt) ?_; intro v' wb hown' hgrow hnil; obtain ⟨g6, c6, rfl, hlo6, r0, r1, r2⟩ := regs_cells HMM.out hown'; obtain ⟨hne1, hne2⟩ := apart_of hlo6; clear hlo6; have HGR : Hid (Below (R + 1) (wr.alloc _) wb) := ownsRow_underF (World.ownsRow.alloc HST2.out.regs _) (base_le _ HST2.out.box.lt) hgrow; have HBX : Hid (SBx wb R 3 0 0 0 n) := HST2.out.boxB HGR.out; have HAN : Hid (SBx wb S 0 0 0 0 0) := HST2.out.ansB HGR.out; have HBW : Hid (Below S w wb) := HST2.out.belowB HGR.out; obtain ⟨d0, d1, d2, d3, d4⟩ := HBX.out.at; have dz1 := HBX.out.fz 1; have dz2 := HBX.out.fz 2; have dz3 := HBX.out.fz 3; clear hown' hgrow hnil)
        refine (spec_stepText _ _ _ _ _ _ HOR.out HNR.out).mono ?_
        rintro e w8 ⟨rfl, b8⟩
        have HX8 : Hid (SBx w8 R 3 (regW rs 0) (0) (0) n) := SBx.keep (by have h9 := HBX.out; unfold SBx at h9 ⊢; simp [World.setCell, Array.getElem?_modify, h9]) b8
        have HA8 : Hid (SBx w8 S 0 0 0 0 0) := SBx.keep (SBx.sets HAN.out HSR2.out (by repeat (first | exact Sets.none | refine Sets.more ?_ _ _))) b8
        have HB8 : Hid (Below S w w8) := Below.trans (Below.sets HBW.out HSR2.out (by repeat (first | exact Sets.none | refine Sets.more ?_ _ _))) (b8.mono (Nat.le_of_lt (SBx.sets HAN.out HSR2.out (by repeat (first | exact Sets.none | refine Sets.more ?_ _ _))).lt))
        have HSW : Hid (stepW 3 rs n = ⟨3, regW rs 0, 0, 0, n⟩) := by show _ = _; simp [stepW]
        clear b8 d0 d1 d2 d3 d4 dz1 dz2 dz3 r0 r1 r2
        obtain ⟨T, HT⟩ : ∃ T, Hid (textX ⟨3, regW rs 0, 0, 0, n⟩ = T) := ⟨_, rfl⟩
        rw [HT.out]
        obtain ⟨d0, d1, d2, d3, d4⟩ := HX8.out.at
        obtain ⟨a0, a1, a2, a3, a4⟩ := HA8.out.at
        have z0 := HA8.out.fz 0
        have z1 := HA8.out.fz 1
        have z2 := HA8.out.fz 2
        have z3 := HA8.out.fz 3
        have z4 := HA8.out.fz 4
        go_wp2_with fail
        all_goals exact bodyPost_ret (v := .tuple #[.agg #[.int .i64 3, .int .i64 (regW rs 0), .int .i64 (0), .int .i64 (0), .int .i64 n], .bool _]) (results_line Tryz.results16 _ _ rfl rfl (HA8.out.five 3 (regW rs 0) (0) (0) n)) rfl (line_end (by rw [HHD.out]; exact HOP.out) HW4.out HSW.out HT.out (by first | rfl | simp_all) (by rw [HS.out]; exact below_fiveB HB8.out (Nat.le_refl _) _ _ _ _ _))
      · go_wp2_with (at_builtin; refine wpList_append_own _ rfl _ _ 28 rfl (R + 1) 3 i0 (.int .i64 0) 1 8 Tryz.underlying28 hi hz0 hz1 hz2 rfl (by decide) _ rs.length (rs.map (fun x => Value.int .i64 x)) rfl (World.ownsRow.alloc HST2.out.regs _) ⟨wr.heap.size, 0, none⟩ 3 3 [.int .i64 0, .int .i64 0, .int .i64 0] rfl rfl (cells_threeI wr _) (by simp [Value.oneCell']) HM3.out.1 HM3.out.2 (base_le _ HST2.out.box.lt) ?_; intro v' wb hown' hgrow hnil; obtain ⟨g6, c6, rfl, hlo6, r0, r1, r2⟩ := regs_cells HMM.out hown'; obtain ⟨hne1, hne2⟩ := apart_of hlo6; clear hlo6; have HGR : Hid (Below (R + 1) (wr.alloc _) wb) := ownsRow_underF (World.ownsRow.alloc HST2.out.regs _) (base_le _ HST2.out.box.lt) hgrow; have HBX : Hid (SBx wb R 3 0 0 0 n) := HST2.out.boxB HGR.out; have HAN : Hid (SBx wb S 0 0 0 0 0) := HST2.out.ansB HGR.out; have HBW : Hid (Below S w wb) := HST2.out.belowB HGR.out; obtain ⟨d0, d1, d2, d3, d4⟩ := HBX.out.at; have dz1 := HBX.out.fz 1; have dz2 := HBX.out.fz 2; have dz3 := HBX.out.fz 3; clear hown' hgrow hnil)
        refine (spec_stepText _ _ _ _ _ _ HOR.out HNR.out).mono ?_
        rintro e w8 ⟨rfl, b8⟩
        have HX8 : Hid (SBx w8 R 3 (regW rs 0) (0) (0) n) := SBx.keep (by have h9 := HBX.out; unfold SBx at h9 ⊢; simp [World.setCell, Array.getElem?_modify, h9]) b8
        have HA8 : Hid (SBx w8 S 0 0 0 0 0) := SBx.keep (SBx.sets HAN.out HSR2.out (by repeat (first | exact Sets.none | refine Sets.more ?_ _ _))) b8
        have HB8 : Hid (Below S w w8) := Below.trans (Below.sets HBW.out HSR2.out (by repeat (first | exact Sets.none | refine Sets.more ?_ _ _))) (b8.mono (Nat.le_of_lt (SBx.sets HAN.out HSR2.out (by repeat (first | exact Sets.none | refine Sets.more ?_ _ _))).lt))
        have HSW : Hid (stepW 3 rs n = ⟨3, regW rs 0, 0, 0, n⟩) := by show _ = _; simp [stepW]
        clear b8 d0 d1 d2 d3 d4 dz1 dz2 dz3 r0 r1 r2
        obtain ⟨T, HT⟩ : ∃ T, Hid (textX ⟨3, regW rs 0, 0, 0, n⟩ = T) := ⟨_, rfl⟩
        rw [HT.out]
        obtain ⟨d0, d1, d2, d3, d4⟩ := HX8.out.at
        obtain ⟨a0, a1, a2, a3, a4⟩ := HA8.out.at
        have z0 := HA8.out.fz 0
        have z1 := HA8.out.fz 1
        have z2 := HA8.out.fz 2
        have z3 := HA8.out.fz 3
        have z4 := HA8.out.fz 4
        go_wp2_with fail
        all_goals exact bodyPost_ret (v := .tuple #[.agg #[.int .i64 3, .int .i64 (regW rs 0), .int .i64 (0), .int .i64 (0), .int .i64 n], .bool _]) (results_line Tryz.results16 _ _ rfl rfl (HA8.out.five 3 (regW rs 0) (0) (0) n)) rfl (line_end (by rw [HHD.out]; exact HOP.out) HW4.out HSW.out HT.out (by first | rfl | simp_all) (by rw [HS.out]; exact below_fiveB HB8.out (Nat.le_refl _) _ _ _ _ _))
      · go_wp2_with (at_builtin; refine wpList_append_own _ rfl _ _ 28 rfl (R + 1) 3 i0 (.int .i64 0) 1 8 Tryz.underlying28 hi hz0 hz1 hz2 rfl (by decide) _ rs.length (rs.map (fun x => Value.int .i64 x)) rfl (World.ownsRow.alloc HST2.out.regs _) ⟨wr.heap.size, 0, none⟩ 3 3 [.int .i64 0, .int .i64 0, .int .i64 0] rfl rfl (cells_threeI wr _) (by simp [Value.oneCell']) HM3.out.1 HM3.out.2 (base_le _ HST2.out.box.lt) ?_; intro v' wb hown' hgrow hnil; obtain ⟨g6, c6, rfl, hlo6, r0, r1, r2⟩ := regs_cells HMM.out hown'; obtain ⟨hne1, hne2⟩ := apart_of hlo6; clear hlo6; have HGR : Hid (Below (R + 1) (wr.alloc _) wb) := ownsRow_underF (World.ownsRow.alloc HST2.out.regs _) (base_le _ HST2.out.box.lt) hgrow; have HBX : Hid (SBx wb R 8 0 0 0 n) := HST2.out.boxB HGR.out; have HAN : Hid (SBx wb S 0 0 0 0 0) := HST2.out.ansB HGR.out; have HBW : Hid (Below S w wb) := HST2.out.belowB HGR.out; obtain ⟨d0, d1, d2, d3, d4⟩ := HBX.out.at; have dz1 := HBX.out.fz 1; have dz2 := HBX.out.fz 2; have dz3 := HBX.out.fz 3; clear hown' hgrow hnil)
        refine (spec_stepText _ _ _ _ _ _ HOR.out HNR.out).mono ?_
        rintro e w8 ⟨rfl, b8⟩
        have HX8 : Hid (SBx w8 R 8 (regW rs 0) (0) (0) n) := SBx.keep (by have h9 := HBX.out; unfold SBx at h9 ⊢; simp [World.setCell, Array.getElem?_modify, h9]) b8
        have HA8 : Hid (SBx w8 S 0 0 0 0 0) := SBx.keep (SBx.sets HAN.out HSR2.out (by repeat (first | exact Sets.none | refine Sets.more ?_ _ _))) b8
        have HB8 : Hid (Below S w w8) := Below.trans (Below.sets HBW.out HSR2.out (by repeat (first | exact Sets.none | refine Sets.more ?_ _ _))) (b8.mono (Nat.le_of_lt (SBx.sets HAN.out HSR2.out (by repeat (first | exact Sets.none | refine Sets.more ?_ _ _))).lt))
        have HSW : Hid (stepW 8 rs n = ⟨8, regW rs 0, 0, 0, n⟩) := by show _ = _; simp [stepW]
        clear b8 d0 d1 d2 d3 d4 dz1 dz2 dz3 r0 r1 r2
        obtain ⟨T, HT⟩ : ∃ T, Hid (textX ⟨8, regW rs 0, 0, 0, n⟩ = T) := ⟨_, rfl⟩
        rw [HT.out]
        obtain ⟨d0, d1, d2, d3, d4⟩ := HX8.out.at
        obtain ⟨a0, a1, a2, a3, a4⟩ := HA8.out.at
        have z0 := HA8.out.fz 0
        have z1 := HA8.out.fz 1
        have z2 := HA8.out.fz 2
        have z3 := HA8.out.fz 3
        have z4 := HA8.out.fz 4
        go_wp2_with fail
        all_goals exact bodyPost_ret (v := .tuple #[.agg #[.int .i64 8, .int .i64 (regW rs 0), .int .i64 (0), .int .i64 (0), .int .i64 n], .bool _]) (results_line Tryz.results16 _ _ rfl rfl (HA8.out.five 8 (regW rs 0) (0) (0) n)) rfl (line_end (by rw [HHD.out]; exact HOP.out) HW4.out HSW.out HT.out (by first | rfl | simp_all) (by rw [HS.out]; exact below_fiveB HB8.out (Nat.le_refl _) _ _ _ _ _))
      · go_wp2_with (at_builtin; refine wpList_append_own _ rfl _ _ 28 rfl (R + 1) 3 i0 (.int .i64 0) 1 8 Tryz.underlying28 hi hz0 hz1 hz2 rfl (by decide) _ rs.length (rs.map (fun x => Value.int .i64 x)) rfl (World.ownsRow.alloc HST2.out.regs _) ⟨wr.heap.size, 0, none⟩ 3 3 [.int .i64 0, .int .i64 0, .int .i64 0] rfl rfl (cells_threeI wr _) (by simp [Value.oneCell']) HM3.out.1 HM3.out.2 (base_le _ HST2.out.box.lt) ?_; intro v' wb hown' hgrow hnil; obtain ⟨g6, c6, rfl, hlo6, r0, r1, r2⟩ := regs_cells HMM.out hown'; obtain ⟨hne1, hne2⟩ := apart_of hlo6; clear hlo6; have HGR : Hid (Below (R + 1) (wr.alloc _) wb) := ownsRow_underF (World.ownsRow.alloc HST2.out.regs _) (base_le _ HST2.out.box.lt) hgrow; have HBX : Hid (SBx wb R 8 0 0 0 n) := HST2.out.boxB HGR.out; have HAN : Hid (SBx wb S 0 0 0 0 0) := HST2.out.ansB HGR.out; have HBW : Hid (Below S w wb) := HST2.out.belowB HGR.out; obtain ⟨d0, d1, d2, d3, d4⟩ := HBX.out.at; have dz1 := HBX.out.fz 1; have dz2 := HBX.out.fz 2; have dz3 := HBX.out.fz 3; clear hown' hgrow hnil)
        refine (spec_stepText _ _ _ _ _ _ HOR.out HNR.out).mono ?_
        rintro e w8 ⟨rfl, b8⟩
        have HX8 : Hid (SBx w8 R 8 (regW rs 0) (0) (0) n) := SBx.keep (by have h9 := HBX.out; unfold SBx at h9 ⊢; simp [World.setCell, Array.getElem?_modify, h9]) b8
        have HA8 : Hid (SBx w8 S 0 0 0 0 0) := SBx.keep (SBx.sets HAN.out HSR2.out (by repeat (first | exact Sets.none | refine Sets.more ?_ _ _))) b8
        have HB8 : Hid (Below S w w8) := Below.trans (Below.sets HBW.out HSR2.out (by repeat (first | exact Sets.none | refine Sets.more ?_ _ _))) (b8.mono (Nat.le_of_lt (SBx.sets HAN.out HSR2.out (by repeat (first | exact Sets.none | refine Sets.more ?_ _ _))).lt))
        have HSW : Hid (stepW 8 rs n = ⟨8, regW rs 0, 0, 0, n⟩) := by show _ = _; simp [stepW]
        clear b8 d0 d1 d2 d3 d4 dz1 dz2 dz3 r0 r1 r2
        obtain ⟨T, HT⟩ : ∃ T, Hid (textX ⟨8, regW rs 0, 0, 0, n⟩ = T) := ⟨_, rfl⟩
        rw [HT.out]
        obtain ⟨d0, d1, d2, d3, d4⟩ := HX8.out.at
        obtain ⟨a0, a1, a2, a3, a4⟩ := HA8.out.at
        have z0 := HA8.out.fz 0
        have z1 := HA8.out.fz 1
        have z2 := HA8.out.fz 2
        have z3 := HA8.out.fz 3
        have z4 := HA8.out.fz 4
        go_wp2_with fail
        all_goals exact bodyPost_ret (v := .tuple #[.agg #[.int .i64 8, .int .i64 (regW rs 0), .int .i64 (0), .int .i64 (0), .int .i64 n], .bool _]) (results_line Tryz.results16 _ _ rfl rfl (HA8.out.five 8 (regW rs 0) (0) (0) n)) rfl (line_end (by rw [HHD.out]; exact HOP.out) HW4.out HSW.out HT.out (by first | rfl | simp_all) (by rw [HS.out]; exact below_fiveB HB8.out (Nat.le_refl _) _ _ _ _ _))
      · go_wp2_with (at_builtin; refine wpList_append_own _ rfl _ _ 28 rfl (R + 1) 3 i0 (.int .i64 0) 1 8 Tryz.underlying28 hi hz0 hz1 hz2 rfl (by decide) _ rs.length (rs.map (fun x => Value.int .i64 x)) rfl (World.ownsRow.alloc HST2.out.regs _) ⟨wr.heap.size, 0, none⟩ 3 3 [.int .i64 0, .int .i64 0, .int .i64 0] rfl rfl (cells_threeI wr _) (by simp [Value.oneCell']) HM3.out.1 HM3.out.2 (base_le _ HST2.out.box.lt) ?_; intro v' wb hown' hgrow hnil; obtain ⟨g6, c6, rfl, hlo6, r0, r1, r2⟩ := regs_cells HMM.out hown'; obtain ⟨hne1, hne2⟩ := apart_of hlo6; clear hlo6; have HGR : Hid (Below (R + 1) (wr.alloc _) wb) := ownsRow_underF (World.ownsRow.alloc HST2.out.regs _) (base_le _ HST2.out.box.lt) hgrow; have HBX : Hid (SBx wb R 2 0 0 0 n) := HST2.out.boxB HGR.out; have HAN : Hid (SBx wb S 0 0 0 0 0) := HST2.out.ansB HGR.out; have HBW : Hid (Below S w wb) := HST2.out.belowB HGR.out; obtain ⟨d0, d1, d2, d3, d4⟩ := HBX.out.at; have dz1 := HBX.out.fz 1; have dz2 := HBX.out.fz 2; have dz3 := HBX.out.fz 3; clear hown' hgrow hnil)
        refine (spec_stepText _ _ _ _ _ _ HOR.out HNR.out).mono ?_
        rintro e w8 ⟨rfl, b8⟩
        have HX8 : Hid (SBx w8 R 2 (regW rs 0) (regW rs 1) (0) n) := SBx.keep (by have h9 := HBX.out; unfold SBx at h9 ⊢; simp [World.setCell, Array.getElem?_modify, h9]) b8
        have HA8 : Hid (SBx w8 S 0 0 0 0 0) := SBx.keep (SBx.sets HAN.out HSR2.out (by repeat (first | exact Sets.none | refine Sets.more ?_ _ _))) b8
        have HB8 : Hid (Below S w w8) := Below.trans (Below.sets HBW.out HSR2.out (by repeat (first | exact Sets.none | refine Sets.more ?_ _ _))) (b8.mono (Nat.le_of_lt (SBx.sets HAN.out HSR2.out (by repeat (first | exact Sets.none | refine Sets.more ?_ _ _))).lt))
        have HSW : Hid (stepW 2 rs n = ⟨2, regW rs 0, regW rs 1, 0, n⟩) := by show _ = _; simp [stepW]
        clear b8 d0 d1 d2 d3 d4 dz1 dz2 dz3 r0 r1 r2
        obtain ⟨T, HT⟩ : ∃ T, Hid (textX ⟨2, regW rs 0, regW rs 1, 0, n⟩ = T) := ⟨_, rfl⟩
        rw [HT.out]
        obtain ⟨d0, d1, d2, d3, d4⟩ := HX8.out.at
        obtain ⟨a0, a1, a2, a3, a4⟩ := HA8.out.at
        have z0 := HA8.out.fz 0
        have z1 := HA8.out.fz 1
        have z2 := HA8.out.fz 2
        have z3 := HA8.out.fz 3
        have z4 := HA8.out.fz 4
        go_wp2_with fail
        all_goals exact bodyPost_ret (v := .tuple #[.agg #[.int .i64 2, .int .i64 (regW rs 0), .int .i64 (regW rs 1), .int .i64 (0), .int .i64 n], .bool _]) (results_line Tryz.results16 _ _ rfl rfl (HA8.out.five 2 (regW rs 0) (regW rs 1) (0) n)) rfl (line_end (by rw [HHD.out]; exact HOP.out) HW4.out HSW.out HT.out (by first | rfl | simp_all) (by rw [HS.out]; exact below_fiveB HB8.out (Nat.le_refl _) _ _ _ _ _))
      · go_wp2_with (at_builtin; refine wpList_append_own _ rfl _ _ 28 rfl (R + 1) 3 i0 (.int .i64 0) 1 8 Tryz.underlying28 hi hz0 hz1 hz2 rfl (by decide) _ rs.length (rs.map (fun x => Value.int .i64 x)) rfl (World.ownsRow.alloc HST2.out.regs _) ⟨wr.heap.size, 0, none⟩ 3 3 [.int .i64 0, .int .i64 0, .int .i64 0] rfl rfl (cells_threeI wr _) (by simp [Value.oneCell']) HM3.out.1 HM3.out.2 (base_le _ HST2.out.box.lt) ?_; intro v' wb hown' hgrow hnil; obtain ⟨g6, c6, rfl, hlo6, r0, r1, r2⟩ := regs_cells HMM.out hown'; obtain ⟨hne1, hne2⟩ := apart_of hlo6; clear hlo6; have HGR : Hid (Below (R + 1) (wr.alloc _) wb) := ownsRow_underF (World.ownsRow.alloc HST2.out.regs _) (base_le _ HST2.out.box.lt) hgrow; have HBX : Hid (SBx wb R 2 0 0 0 n) := HST2.out.boxB HGR.out; have HAN : Hid (SBx wb S 0 0 0 0 0) := HST2.out.ansB HGR.out; have HBW : Hid (Below S w wb) := HST2.out.belowB HGR.out; obtain ⟨d0, d1, d2, d3, d4⟩ := HBX.out.at; have dz1 := HBX.out.fz 1; have dz2 := HBX.out.fz 2; have dz3 := HBX.out.fz 3; clear hown' hgrow hnil)
        refine (spec_stepText _ _ _ _ _ _ HOR.out HNR.out).mono ?_
        rintro e w8 ⟨rfl, b8⟩
        have HX8 : Hid (SBx w8 R 2 (regW rs 0) (regW rs 1) (0) n) := SBx.keep (by have h9 := HBX.out; unfold SBx at h9 ⊢; simp [World.setCell, Array.getElem?_modify, h9]) b8
        have HA8 : Hid (SBx w8 S 0 0 0 0 0) := SBx.keep (SBx.sets HAN.out HSR2.out (by repeat (first | exact Sets.none | refine Sets.more ?_ _ _))) b8
        have HB8 : Hid (Below S w w8) := Below.trans (Below.sets HBW.out HSR2.out (by repeat (first | exact Sets.none | refine Sets.more ?_ _ _))) (b8.mono (Nat.le_of_lt (SBx.sets HAN.out HSR2.out (by repeat (first | exact Sets.none | refine Sets.more ?_ _ _))).lt))
        have HSW : Hid (stepW 2 rs n = ⟨2, regW rs 0, regW rs 1, 0, n⟩) := by show _ = _; simp [stepW]
        clear b8 d0 d1 d2 d3 d4 dz1 dz2 dz3 r0 r1 r2
        obtain ⟨T, HT⟩ : ∃ T, Hid (textX ⟨2, regW rs 0, regW rs 1, 0, n⟩ = T) := ⟨_, rfl⟩
        rw [HT.out]
        obtain ⟨d0, d1, d2, d3, d4⟩ := HX8.out.at
        obtain ⟨a0, a1, a2, a3, a4⟩ := HA8.out.at
        have z0 := HA8.out.fz 0
        have z1 := HA8.out.fz 1
        have z2 := HA8.out.fz 2
        have z3 := HA8.out.fz 3
        have z4 := HA8.out.fz 4
        go_wp2_with fail
        all_goals exact bodyPost_ret (v := .tuple #[.agg #[.int .i64 2, .int .i64 (regW rs 0), .int .i64 (regW rs 1), .int .i64 (0), .int .i64 n], .bool _]) (results_line Tryz.results16 _ _ rfl rfl (HA8.out.five 2 (regW rs 0) (regW rs 1) (0) n)) rfl (line_end (by rw [HHD.out]; exact HOP.out) HW4.out HSW.out HT.out (by first | rfl | simp_all) (by rw [HS.out]; exact below_fiveB HB8.out (Nat.le_refl _) _ _ _ _ _))
      · go_wp2_with (at_builtin; refine wpList_append_own _ rfl _ _ 28 rfl (R + 1) 3 i0 (.int .i64 0) 1 8 Tryz.underlying28 hi hz0 hz1 hz2 rfl (by decide) _ rs.length (rs.map (fun x => Value.int .i64 x)) rfl (World.ownsRow.alloc HST2.out.regs _) ⟨wr.heap.size, 0, none⟩ 3 3 [.int .i64 0, .int .i64 0, .int .i64 0] rfl rfl (cells_threeI wr _) (by simp [Value.oneCell']) HM3.out.1 HM3.out.2 (base_le _ HST2.out.box.lt) ?_; intro v' wb hown' hgrow hnil; obtain ⟨g6, c6, rfl, hlo6, r0, r1, r2⟩ := regs_cells HMM.out hown'; obtain ⟨hne1, hne2⟩ := apart_of hlo6; clear hlo6; have HGR : Hid (Below (R + 1) (wr.alloc _) wb) := ownsRow_underF (World.ownsRow.alloc HST2.out.regs _) (base_le _ HST2.out.box.lt) hgrow; have HBX : Hid (SBx wb R 5 0 0 0 n) := HST2.out.boxB HGR.out; have HAN : Hid (SBx wb S 0 0 0 0 0) := HST2.out.ansB HGR.out; have HBW : Hid (Below S w wb) := HST2.out.belowB HGR.out; obtain ⟨d0, d1, d2, d3, d4⟩ := HBX.out.at; have dz1 := HBX.out.fz 1; have dz2 := HBX.out.fz 2; have dz3 := HBX.out.fz 3; clear hown' hgrow hnil)
        refine (spec_stepText _ _ _ _ _ _ HOR.out HNR.out).mono ?_
        rintro e w8 ⟨rfl, b8⟩
        have HX8 : Hid (SBx w8 R 5 (regW rs 0) (regW rs 1) (0) n) := SBx.keep (by have h9 := HBX.out; unfold SBx at h9 ⊢; simp [World.setCell, Array.getElem?_modify, h9]) b8
        have HA8 : Hid (SBx w8 S 0 0 0 0 0) := SBx.keep (SBx.sets HAN.out HSR2.out (by repeat (first | exact Sets.none | refine Sets.more ?_ _ _))) b8
        have HB8 : Hid (Below S w w8) := Below.trans (Below.sets HBW.out HSR2.out (by repeat (first | exact Sets.none | refine Sets.more ?_ _ _))) (b8.mono (Nat.le_of_lt (SBx.sets HAN.out HSR2.out (by repeat (first | exact Sets.none | refine Sets.more ?_ _ _))).lt))
        have HSW : Hid (stepW 5 rs n = ⟨5, regW rs 0, regW rs 1, 0, n⟩) := by show _ = _; simp [stepW]
        clear b8 d0 d1 d2 d3 d4 dz1 dz2 dz3 r0 r1 r2
        obtain ⟨T, HT⟩ : ∃ T, Hid (textX ⟨5, regW rs 0, regW rs 1, 0, n⟩ = T) := ⟨_, rfl⟩
        rw [HT.out]
        obtain ⟨d0, d1, d2, d3, d4⟩ := HX8.out.at
        obtain ⟨a0, a1, a2, a3, a4⟩ := HA8.out.at
        have z0 := HA8.out.fz 0
        have z1 := HA8.out.fz 1
        have z2 := HA8.out.fz 2
        have z3 := HA8.out.fz 3
        have z4 := HA8.out.fz 4
        go_wp2_with fail
        all_goals exact bodyPost_ret (v := .tuple #[.agg #[.int .i64 5, .int .i64 (regW rs 0), .int .i64 (regW rs 1), .int .i64 (0), .int .i64 n], .bool _]) (results_line Tryz.results16 _ _ rfl rfl (HA8.out.five 5 (regW rs 0) (regW rs 1) (0) n)) rfl (line_end (by rw [HHD.out]; exact HOP.out) HW4.out HSW.out HT.out (by first | rfl | simp_all) (by rw [HS.out]; exact below_fiveB HB8.out (Nat.le_refl _) _ _ _ _ _))
      · go_wp2_with (at_builtin; refine wpList_append_own _ rfl _ _ 28 rfl (R + 1) 3 i0 (.int .i64 0) 1 8 Tryz.underlying28 hi hz0 hz1 hz2 rfl (by decide) _ rs.length (rs.map (fun x => Value.int .i64 x)) rfl (World.ownsRow.alloc HST2.out.regs _) ⟨wr.heap.size, 0, none⟩ 3 3 [.int .i64 0, .int .i64 0, .int .i64 0] rfl rfl (cells_threeI wr _) (by simp [Value.oneCell']) HM3.out.1 HM3.out.2 (base_le _ HST2.out.box.lt) ?_; intro v' wb hown' hgrow hnil; obtain ⟨g6, c6, rfl, hlo6, r0, r1, r2⟩ := regs_cells HMM.out hown'; obtain ⟨hne1, hne2⟩ := apart_of hlo6; clear hlo6; have HGR : Hid (Below (R + 1) (wr.alloc _) wb) := ownsRow_underF (World.ownsRow.alloc HST2.out.regs _) (base_le _ HST2.out.box.lt) hgrow; have HBX : Hid (SBx wb R 5 0 0 0 n) := HST2.out.boxB HGR.out; have HAN : Hid (SBx wb S 0 0 0 0 0) := HST2.out.ansB HGR.out; have HBW : Hid (Below S w wb) := HST2.out.belowB HGR.out; obtain ⟨d0, d1, d2, d3, d4⟩ := HBX.out.at; have dz1 := HBX.out.fz 1; have dz2 := HBX.out.fz 2; have dz3 := HBX.out.fz 3; clear hown' hgrow hnil)
        refine (spec_stepText _ _ _ _ _ _ HOR.out HNR.out).mono ?_
        rintro e w8 ⟨rfl, b8⟩
        have HX8 : Hid (SBx w8 R 5 (regW rs 0) (regW rs 1) (0) n) := SBx.keep (by have h9 := HBX.out; unfold SBx at h9 ⊢; simp [World.setCell, Array.getElem?_modify, h9]) b8
        have HA8 : Hid (SBx w8 S 0 0 0 0 0) := SBx.keep (SBx.sets HAN.out HSR2.out (by repeat (first | exact Sets.none | refine Sets.more ?_ _ _))) b8
        have HB8 : Hid (Below S w w8) := Below.trans (Below.sets HBW.out HSR2.out (by repeat (first | exact Sets.none | refine Sets.more ?_ _ _))) (b8.mono (Nat.le_of_lt (SBx.sets HAN.out HSR2.out (by repeat (first | exact Sets.none | refine Sets.more ?_ _ _))).lt))
        have HSW : Hid (stepW 5 rs n = ⟨5, regW rs 0, regW rs 1, 0, n⟩) := by show _ = _; simp [stepW]
        clear b8 d0 d1 d2 d3 d4 dz1 dz2 dz3 r0 r1 r2
        obtain ⟨T, HT⟩ : ∃ T, Hid (textX ⟨5, regW rs 0, regW rs 1, 0, n⟩ = T) := ⟨_, rfl⟩
        rw [HT.out]
        obtain ⟨d0, d1, d2, d3, d4⟩ := HX8.out.at
        obtain ⟨a0, a1, a2, a3, a4⟩ := HA8.out.at
        have z0 := HA8.out.fz 0
        have z1 := HA8.out.fz 1
        have z2 := HA8.out.fz 2
        have z3 := HA8.out.fz 3
        have z4 := HA8.out.fz 4
        go_wp2_with fail
        all_goals exact bodyPost_ret (v := .tuple #[.agg #[.int .i64 5, .int .i64 (regW rs 0), .int .i64 (regW rs 1), .int .i64 (0), .int .i64 n], .bool _]) (results_line Tryz.results16 _ _ rfl rfl (HA8.out.five 5 (regW rs 0) (regW rs 1) (0) n)) rfl (line_end (by rw [HHD.out]; exact HOP.out) HW4.out HSW.out HT.out (by first | rfl | simp_all) (by rw [HS.out]; exact below_fiveB HB8.out (Nat.le_refl _) _ _ _ _ _))
      · exfalso; have h1 := HXC.out; have h2 := HOP.out; rw [HHD.out] at h1; omega
      · exfalso; have h1 := HXC.out; have h2 := HOP.out; rw [HHD.out] at h1; omega
      · exfalso; have h1 := HXC.out; have h2 := HOP.out; rw [HHD.out] at h1; omega
      · exfalso; have h1 := HXC.out; have h2 := HOP.out; rw [HHD.out] at h1; omega
      · exfalso; have h1 := HXC.out; have h2 := HOP.out; rw [HHD.out] at h1; omega
      · exfalso; have h1 := HXC.out; have h2 := HOP.out; rw [HHD.out] at h1; omega
      · exfalso; have h1 := HXC.out; have h2 := HOP.out; rw [HHD.out] at h1; omega
      · exfalso; have h1 := HXC.out; have h2 := HOP.out; rw [HHD.out] at h1; omega
      · exfalso; have h1 := HXC.out; have h2 := HOP.out; rw [HHD.out] at h1; omega
      · exfalso; have h1 := HXC.out; have h2 := HOP.out; rw [HHD.out] at h1; omega
      · exfalso; have h1 := HXC.out; have h2 := HOP.out; rw [HHD.out] at h1; have h3 := ne_of_beq e1; have h4 := ne_of_beq e3; have h5 := ne_of_beq e8; have h6 := ne_of_beq e2; have h7 := ne_of_beq e5; omega
      · exfalso; have h1 := HXC.out; have h2 := HOP.out; rw [HHD.out] at h1; have h3 := ne_of_beq e1; have h4 := ne_of_beq e3; have h5 := ne_of_beq e8; have h6 := ne_of_beq e2; have h7 := ne_of_beq e5; omega
end Go.Proofs.YtjcocpdicogecaaGreatDoor
