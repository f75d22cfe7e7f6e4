/- The parts of a run: fuel, cells, what is read and what is told. -/
import Derived.Test.YtkpddakmcnknjaaRunMem
import Derived.Test.YtkpddakmcnknjaaShapeDef
namespace Go.Proofs.Ytkpddakmcnknjaa
open Go.ChangeShapes Go.WideShapes Go.ChangeAt Go.RowKit Go.Shelf
set_option linter.unusedVariables false

section
variable {W0 : World} {R S : Nat} {bv : Value} {vals : Int} {s : RunS} {fr pl : Int}

theorem burn_none (w : World) (h : RunIs W0 w R S bv vals s fr pl) (hf : s.fuel = 0) :
    Calls Try.prog 50 #[.pointer (some ⟨R, 0, none⟩)] w fun e w' => e = .returned (.bool false) ∧ w' = w := by
  obtain ⟨rv, tv, pv, h⟩ := h
  have c1 := h.cells.c1
  rw [hf] at c1
  clear h
  go_enter Try.func50, Try.ntmps50
  go_wp2
  go_ret
  exact ⟨rfl, rfl⟩

theorem burn_one (w : World) (h : RunIs W0 w R S bv vals s fr pl) {k : Nat} (hf : s.fuel = k + 1) (hk : k ≤ 5000) :
    Calls Try.prog 50 #[.pointer (some ⟨R, 0, none⟩)] w fun e w' => e = .returned (.bool true) ∧ RunTo W0 R S bv vals fr pl w { s with fuel := k } w' := by
  obtain ⟨rv, tv, pv, h⟩ := h
  obtain ⟨m, HM⟩ : ∃ m : Int, Hid (m = (s.fuel : Int)) := ⟨_, rfl⟩
  have c1 := h.cells.c1
  have f1 := h.frozen 1
  have HH : Hid (RunAt W0 w R S bv vals s fr pl rv tv pv) := h
  rw [← HM.out] at c1
  have hm0 : (m == 0) = false := by have := HM.out; simp; omega
  have hm1 : 1 ≤ m := by have := HM.out; omega
  have hm2 : m ≤ 5001 := by have := HM.out; omega
  clear h
  go_enter Try.func50, Try.ntmps50
  go_wp2
  go_ret
  have e : m - 1 = (k : Int) := by have := HM.out; omega
  refine ⟨rfl, ⟨rv, tv, pv, ?_⟩, FrR.setR _ _ _ _ _⟩
  rw [e]
  exact HH.out.setFuel k

theorem read_any (w : World) (h : RunIs W0 w R S bv vals s fr pl) :
    Calls Try.prog 79 #[.pointer (some ⟨R, 0, none⟩)] w fun e w' => e = .returned (.int .i64 (s.reads.headD 0)) ∧ RunTo W0 R S bv vals fr pl w { s with reads := s.reads.tail } w' := by
  obtain ⟨rv, tv, pv, h⟩ := h
  have c0 := h.cells.c0
  have f0 := h.frozen 0
  have HH : Hid (RunAt W0 w R S bv vals s fr pl rv tv pv) := h
  obtain ⟨a, cap, rfl, hcap, hcm, hc⟩ := h.reads
  cases hl : s.reads with
  | nil =>
    rw [hl] at c0
    have HL : Hid (s.reads = []) := hl
    clear hc h hcap hcm
    go_enter Try.func79, Try.ntmps79
    go_wp2
    go_ret
    refine ⟨rfl, ⟨.slice a s.reads.length cap, tv, pv, ?_⟩, FrR.refl _ _ _⟩
    have e : { s with reads := [] } = s := by rw [← HL.out]
    show RunAt W0 w R S bv vals { s with reads := [] } fr pl _ tv pv
    rw [e]
    exact HH.out
  | cons x l =>
    rw [hl] at c0 hc hcap
    obtain ⟨b, off, rfl, hd⟩ := hc (by simp)
    have q0 : w.cell? ⟨b, off, none⟩ = some (.int .i64 x) := by
      have := hd 0 (by simp)
      exact Bel.keeps h.below (by simpa using this)
    obtain ⟨n, HN⟩ : ∃ n, Hid ((x :: l).length = n) := ⟨_, rfl⟩
    rw [HN.out] at c0 hcap
    have hn : 1 ≤ n := by have := HN.out; simp at this; omega
    have hn0 : ((n : Int) == 0) = false := by simp; omega
    have HD : Hid (∀ i, i < (x :: l).length → W0.cell? ⟨b, off + i, none⟩ = some (.int .i64 ((x :: l).getD i 0))) := hd
    have HL : Hid (s.reads = x :: l) := hl
    clear hc h hd hl
    go_enter Try.func79, Try.ntmps79
    go_wp2
    · go_ret
      refine ⟨rfl, ⟨_, tv, pv, HH.out.setReads (l := l) ?_⟩, FrR.setR _ _ _ _ _⟩
      have hl0 : l = [] := by
        have := HN.out
        simp at this
        exact List.eq_nil_of_length_eq_zero (by omega)
      subst hl0
      exact ⟨_, _, by rw [← HN.out]; rfl, by simp, by omega, fun hp => absurd hp (by simp)⟩
    · go_ret
      refine ⟨rfl, ⟨_, tv, pv, HH.out.setReads (l := l) ?_⟩, FrR.setR _ _ _ _ _⟩
      have hnl : n - 1 = l.length := by have := HN.out; simp at this; omega
      refine ⟨_, _, by rw [hnl], by omega, by omega, fun hp => ⟨b, off + 1, rfl, fun i hi => ?_⟩⟩
      have := HD.out (i + 1) (by simp; omega)
      have e : off + (i + 1) = off + 1 + i := by omega
      rw [e] at this
      simpa [List.getD] using this

set_option maxRecDepth 100000 in
set_option maxHeartbeats 1000000 in
theorem tell_any (x : Int) (w : World) (h : RunIs W0 w R S bv vals s fr pl) (hl : s.told.length ≤ 5000) :
    Calls Try.prog 78 #[.pointer (some ⟨R, 0, none⟩), .int .i64 x] w fun e w' => (∃ v, e = .returned v) ∧ RunTo W0 R S bv vals fr pl w { s with told := s.told ++ [x] } w' := by
  obtain ⟨rv, tv, pv, h⟩ := h
  have HH : Hid (RunAt W0 w R S bv vals s fr pl rv tv pv) := h
  have c10 := h.cells.c10
  have hRl := h.cells.lt.1
  obtain ⟨i0, hi, hz0, hz1, hz2⟩ := info_parts info_int
  have hmx : 100000 ≤ maxLen := by decide
  clear h
  go_enter Try.func78, Try.ntmps78
  go_wp2_with (at_builtin; refine wpList_append_own_at _ rfl _ _ 27 rfl W0.heap.size 3 i0 (.int .i64 0) 1 8 Try.underlying27 hi hz0 hz1 hz2 rfl (by decide) _ _ _ rfl (World.ownsRow.alloc HH.out.told _) ⟨w.heap.size, 0, none⟩ 1 1 [.int .i64 x] rfl rfl (cell_one_new _ _ _) (by simp [Value.oneCell']) (by omega) (by omega) (by have := HH.out.below.size; simp; omega) ?_; intro v' wa hown' hgrow _ hat; have HAT : Hid (v'.ownBlock = tv.ownBlock ∨ v'.ownBlock = some (w.alloc (.cells #[.int .i64 x] 3)).heap.size) := hat; obtain ⟨g', cap', rfl⟩ := ownsRow_succ hown'; have HO' : Hid (OwnInts wa W0.heap.size (.slice (some ⟨g', 0, none⟩) (s.told.length + 1) cap') (s.told ++ [x])) := OwnInts.next hown'; have HG : Hid ((w.alloc (.cells #[.int .i64 x] 3)).grownBy wa tv.ownBlock) := hgrow; have ka := (grown_cells HH.out HH.out.told HG.out).1; have c10' := ka.c10; have f10' := frozen_of_cells ka.row 10; clear hown' hgrow ka c10 hat)
  go_end0
  obtain ⟨ka, hb⟩ := grown_cells HH.out HH.out.told HG.out
  exact ⟨⟨_, rfl⟩, ⟨rv, _, pv, ka.setTold _, HH.out.reads, own_far HO'.out ka.row (by decide), own_far (grown_other HH.out.path HG.out HH.out.apart) ka.row (by decide), apart_new HH.out.path HH.out.apart HAT.out, hb.setCell (p := ⟨R, 10, none⟩) HH.out.hR _, HH.out.hR, HH.out.hS⟩, (FrR.grown HH.out.told HG.out).trans (FrR.setR _ _ _ _ _)⟩

theorem cell_yes (a : Nat) (ha : a < 8) (w : World) :
    Calls Try.prog 115 #[.pointer (some ⟨R, 0, none⟩), .int .i64 (a : Int)] w fun e w' => e = .returned (.pointer (some ⟨R, 2 + a, none⟩)) ∧ w' = w := by
  have h0 : ¬ (a : Int) < 0 := by omega
  have h1 : ¬ (8 : Int) ≤ (a : Int) := by omega
  have h2 : (a : Int) < 8 := by omega
  go_enter Try.func115, Try.ntmps115
  go_wp2
  go_ret
  exact ⟨rfl, rfl⟩

theorem cell_no (a : Int) (ha : ¬ cellOk a) (w : World) :
    Calls Try.prog 115 #[.pointer (some ⟨R, 0, none⟩), .int .i64 a] w fun e w' => e = .returned (.pointer none) ∧ w' = w := by
  by_cases h0 : a < 0
  · clear ha
    go_enter Try.func115, Try.ntmps115
    go_wp2
    go_ret
    exact ⟨rfl, rfl⟩
  · have h1 : (8 : Int) ≤ a := by unfold cellOk at ha; omega
    clear ha
    go_enter Try.func115, Try.ntmps115
    go_wp2
    go_ret
    exact ⟨rfl, rfl⟩

theorem choose_any (k a t e : Int) (an : Nat) (ha : a = (an : Int)) (han : an < 80) (w : World) (h : RunIs W0 w R S bv vals s fr pl) :
    Calls Try.prog 51 #[.pointer (some ⟨R, 0, none⟩), .agg #[.int .i64 k, .int .i64 a, .int .i64 t, .int .i64 e]] w fun en w' => en = .returned (.int .i64 (if s.vals an = 0 then e else t)) ∧ Below w.heap.size w w' := by
  subst ha
  obtain ⟨rv, tv, pv, h⟩ := h
  have cv := h.cells.cv an han
  have hl := h.cells.lt.1
  obtain ⟨x, HX⟩ : ∃ x, Hid (s.vals an = x) := ⟨_, rfl⟩
  rw [HX.out] at cv ⊢
  have hi2 : (an : Int) < 80 := by omega
  clear h
  by_cases hx : x = 0
  · rw [if_pos hx]
    subst hx
    go_enter Try.func51, Try.ntmps51
    go_wp2
    go_region_held3 (fun w' => w'.cell? ⟨R, 14 + an, none⟩ = some (.int .i64 0) ∧ w'.cell? ⟨w.heap.size, 1, none⟩ = some (.int .i64 (an : Int))) (go_keep) (fail)
    simp only [Exit.then]
    go_at_K
    go_wp2
    go_ret
    exact ⟨rfl, by repeat (first | exact Below.refl _ _ | apply Below.drew | refine Below.alloc ?_ (by simp <;> omega) _ | refine Below.setCell ?_ (by simp <;> omega) _)⟩
  · rw [if_neg hx]
    have hx2 : (x == 0) = false := by simp [hx]
    go_enter Try.func51, Try.ntmps51
    go_wp2
    go_region_held3 (fun w' => w'.cell? ⟨R, 14 + an, none⟩ = some (.int .i64 x) ∧ w'.cell? ⟨w.heap.size, 1, none⟩ = some (.int .i64 (an : Int))) (go_keep) (fail)
    simp only [Exit.then]
    go_at_K
    go_wp2
    go_ret
    exact ⟨rfl, by repeat (first | exact Below.refl _ _ | apply Below.drew | refine Below.alloc ?_ (by simp <;> omega) _ | refine Below.setCell ?_ (by simp <;> omega) _)⟩

theorem box2 (w : World) (x y : Value) (t : TypeId) : (w.alloc (.cells #[x, y] t)).cell? ⟨w.heap.size, 0, none⟩ = some x ∧ (w.alloc (.cells #[x, y] t)).cell? ⟨w.heap.size, 1, none⟩ = some y := by
  constructor
  · simp only [World.cell?]; rw [World.alloc_heap_new]; rfl
  · simp only [World.cell?]; rw [World.alloc_heap_new]; rfl

set_option maxHeartbeats 1000000 in
theorem load_yes (d an cn : Nat) (hd : d < 80) (ha : an < 80) (hc : cn < 8) (hv : s.vals an = (cn : Int)) (w : World) (h : RunIs W0 w R S bv vals s fr pl) :
    Calls Try.prog 76 #[.pointer (some ⟨R, 0, none⟩), .agg #[.int .i64 (d : Int), .int .i64 (an : Int)]] w fun e w' => e = .returned (.int .i64 0) ∧ RunTo W0 R S bv vals fr pl w { s with vals := updN s.vals d (s.cells cn) } w' := by
  obtain ⟨rv, tv, pv, h⟩ := h
  have hd2 : (d : Int) < 80 := by omega
  have ha2 : (an : Int) < 80 := by omega
  have HV : Hid (s.vals an = (cn : Int)) := hv
  clear hv
  have HH0 : Hid (RunAt W0 w R S bv vals s fr pl rv tv pv) := h
  clear h
  go_enter Try.func76, Try.ntmps76
  go_wp2
  obtain ⟨x0, x1⟩ := box2 w (.int .i64 (d : Int)) (.int .i64 (an : Int)) 133
  have h := HH0.out.later (Bel.alloc w (.cells #[.int .i64 (d : Int), .int .i64 (an : Int)] 133))
  have HF : Hid (FrR R S w (w.alloc (.cells #[.int .i64 (d : Int), .int .i64 (an : Int)] 133))) := FrR.ofBelow (Bel.alloc _ _)
  have hRB : R ≠ w.heap.size := by have := HH0.out.cells.lt.1; omega
  generalize w.alloc (.cells #[.int .i64 (d : Int), .int .i64 (an : Int)] 133) = w1 at x0 x1 h HF ⊢
  generalize w.heap.size = B at x0 x1 hRB ⊢
  have cv := h.cells.cv an ha
  have cd := h.cells.cv d hd
  have cc := h.cells.cc cn hc
  have fz := h.frozen (14 + d)
  have HH : Hid (RunAt W0 w1 R S bv vals s fr pl rv tv pv) := h
  obtain ⟨y, HY⟩ : ∃ y, Hid (s.cells cn = y) := ⟨_, rfl⟩
  rw [HV.out] at cv
  rw [HY.out] at cc
  obtain ⟨z, HZ⟩ : ∃ z, Hid (s.vals d = z) := ⟨_, rfl⟩
  rw [HZ.out] at cd
  have hne : 2 + cn ≠ 14 + d := by omega
  clear h
  go_region_held3 (fun w' => w'.cell? ⟨R, 14 + an, none⟩ = some (.int .i64 (cn : Int)) ∧ w'.cell? ⟨B, 1, none⟩ = some (.int .i64 (an : Int))) (go_keep) (first | (go_at_call 115; refine (cell_yes cn hc _).mono ?_; rintro e w2 ⟨rfl, hw2⟩; subst hw2))
  simp only [Exit.then]
  go_at_K
  go_wp2
  go_region_held3 (fun w' => w'.cell? ⟨B, 0, none⟩ = some (.int .i64 (d : Int)) ∧ w'.cell? ⟨R, 2 + cn, none⟩ = some (.int .i64 y)) (first | exact ⟨far_block x0 hRB, far_off cc hne⟩ | go_keep) (fail)
  simp only [Exit.then]
  go_at_K
  go_wp2
  go_ret
  refine ⟨rfl, ⟨rv, tv, pv, ?_⟩, ?_⟩
  · rw [HY.out]
    first | exact (HH.out.setVal hd y).drew.drew | exact (HH.out.setVal hd y).drew | exact HH.out.setVal hd y
  · refine HF.out.trans ((FrR.setR R S (14 + d) (.int .i64 y) w1).trans ?_)
    first | exact FrR.refl _ _ _ | exact FrR.drew _ _ _ | exact (FrR.drew _ _ _).trans (FrR.drew _ _ _)

set_option maxHeartbeats 1000000 in
theorem load_no (d an : Nat) (ha : an < 80) (hc : ¬ cellOk (s.vals an)) (w : World) (h : RunIs W0 w R S bv vals s fr pl) :
    Calls Try.prog 76 #[.pointer (some ⟨R, 0, none⟩), .agg #[.int .i64 (d : Int), .int .i64 (an : Int)]] w fun e w' => e = .returned (.int .i64 2) ∧ RunTo W0 R S bv vals fr pl w s w' := by
  obtain ⟨rv, tv, pv, h⟩ := h
  have ha2 : (an : Int) < 80 := by omega
  have HV : Hid (¬ cellOk (s.vals an)) := hc
  clear hc
  have HH0 : Hid (RunAt W0 w R S bv vals s fr pl rv tv pv) := h
  clear h
  go_enter Try.func76, Try.ntmps76
  go_wp2
  obtain ⟨x0, x1⟩ := box2 w (.int .i64 (d : Int)) (.int .i64 (an : Int)) 133
  have h := HH0.out.later (Bel.alloc w (.cells #[.int .i64 (d : Int), .int .i64 (an : Int)] 133))
  have HF : Hid (FrR R S w (w.alloc (.cells #[.int .i64 (d : Int), .int .i64 (an : Int)] 133))) := FrR.ofBelow (Bel.alloc _ _)
  have hRB : R ≠ w.heap.size := by have := HH0.out.cells.lt.1; omega
  generalize w.alloc (.cells #[.int .i64 (d : Int), .int .i64 (an : Int)] 133) = w1 at x0 x1 h HF ⊢
  generalize w.heap.size = B at x0 x1 hRB ⊢
  have cv := h.cells.cv an ha
  have HH : Hid (RunAt W0 w1 R S bv vals s fr pl rv tv pv) := h
  obtain ⟨y, HY⟩ : ∃ y, Hid (s.vals an = y) := ⟨_, rfl⟩
  rw [HY.out] at cv
  have HV2 : Hid (¬ cellOk y) := by
    show ¬ cellOk y
    rw [← HY.out]; exact HV.out
  clear h
  go_region_held3 (fun w' => w'.cell? ⟨R, 14 + an, none⟩ = some (.int .i64 y) ∧ w'.cell? ⟨B, 1, none⟩ = some (.int .i64 (an : Int))) (go_keep) (first | (go_at_call 115; refine (cell_no y HV2.out _).mono ?_; rintro e w2 ⟨rfl, hw2⟩; subst hw2))
  simp only [Exit.then]
  go_at_K
  go_wp2
  go_ret
  refine ⟨rfl, ⟨rv, tv, pv, ?_⟩, ?_⟩
  · first | exact HH.out.drew | exact HH.out
  · refine HF.out.trans ?_
    first | exact FrR.drew _ _ _ | exact FrR.refl _ _ _

set_option maxHeartbeats 1000000 in
theorem store_yes (an bn cn : Nat) (ha : an < 80) (hb : bn < 80) (hc : cn < 8) (hv : s.vals an = (cn : Int)) (w : World) (h : RunIs W0 w R S bv vals s fr pl) :
    Calls Try.prog 77 #[.pointer (some ⟨R, 0, none⟩), .agg #[.int .i64 (an : Int), .int .i64 (bn : Int)]] w fun e w' => e = .returned (.int .i64 0) ∧ RunTo W0 R S bv vals fr pl w { s with cells := updN s.cells cn (s.vals bn) } w' := by
  obtain ⟨rv, tv, pv, h⟩ := h
  have hb2 : (bn : Int) < 80 := by omega
  have ha2 : (an : Int) < 80 := by omega
  have HV : Hid (s.vals an = (cn : Int)) := hv
  clear hv
  have HH0 : Hid (RunAt W0 w R S bv vals s fr pl rv tv pv) := h
  clear h
  go_enter Try.func77, Try.ntmps77
  go_wp2
  obtain ⟨x0, x1⟩ := box2 w (.int .i64 (an : Int)) (.int .i64 (bn : Int)) 136
  have h := HH0.out.later (Bel.alloc w (.cells #[.int .i64 (an : Int), .int .i64 (bn : Int)] 136))
  have HF : Hid (FrR R S w (w.alloc (.cells #[.int .i64 (an : Int), .int .i64 (bn : Int)] 136))) := FrR.ofBelow (Bel.alloc _ _)
  have hRB : R ≠ w.heap.size := by have := HH0.out.cells.lt.1; omega
  generalize w.alloc (.cells #[.int .i64 (an : Int), .int .i64 (bn : Int)] 136) = w1 at x0 x1 h HF ⊢
  generalize w.heap.size = B at x0 x1 hRB ⊢
  have cv := h.cells.cv an ha
  have cb := h.cells.cv bn hb
  have cc := h.cells.cc cn hc
  have fz := h.frozen (2 + cn)
  have HH : Hid (RunAt W0 w1 R S bv vals s fr pl rv tv pv) := h
  obtain ⟨y, HY⟩ : ∃ y, Hid (s.vals bn = y) := ⟨_, rfl⟩
  rw [HV.out] at cv
  rw [HY.out] at cb
  obtain ⟨z, HZ⟩ : ∃ z, Hid (s.cells cn = z) := ⟨_, rfl⟩
  rw [HZ.out] at cc
  have hne : 14 + bn ≠ 2 + cn := by omega
  clear h
  go_region_held3 (fun w' => w'.cell? ⟨R, 14 + an, none⟩ = some (.int .i64 (cn : Int)) ∧ w'.cell? ⟨B, 0, none⟩ = some (.int .i64 (an : Int))) (go_keep) (first | (go_at_call 115; refine (cell_yes cn hc _).mono ?_; rintro e w2 ⟨rfl, hw2⟩; subst hw2))
  simp only [Exit.then]
  go_at_K
  go_wp2
  go_region_held3 (fun w' => w'.cell? ⟨B, 1, none⟩ = some (.int .i64 (bn : Int)) ∧ w'.cell? ⟨R, 14 + bn, none⟩ = some (.int .i64 y)) (first | exact ⟨far_block x1 hRB, far_off cb hne⟩ | go_keep) (fail)
  simp only [Exit.then]
  go_at_K
  go_wp2
  go_ret
  refine ⟨rfl, ⟨rv, tv, pv, ?_⟩, ?_⟩
  · rw [HY.out]
    first | exact (HH.out.setCell hc y).drew.drew | exact (HH.out.setCell hc y).drew | exact HH.out.setCell hc y
  · refine HF.out.trans ((FrR.setR R S (2 + cn) (.int .i64 y) w1).trans ?_)
    first | exact FrR.refl _ _ _ | exact FrR.drew _ _ _ | exact (FrR.drew _ _ _).trans (FrR.drew _ _ _)

set_option maxHeartbeats 1000000 in
theorem store_no (an bn : Nat) (ha : an < 80) (hc : ¬ cellOk (s.vals an)) (w : World) (h : RunIs W0 w R S bv vals s fr pl) :
    Calls Try.prog 77 #[.pointer (some ⟨R, 0, none⟩), .agg #[.int .i64 (an : Int), .int .i64 (bn : Int)]] w fun e w' => e = .returned (.int .i64 2) ∧ RunTo W0 R S bv vals fr pl w s w' := by
  obtain ⟨rv, tv, pv, h⟩ := h
  have ha2 : (an : Int) < 80 := by omega
  have HV : Hid (¬ cellOk (s.vals an)) := hc
  clear hc
  have HH0 : Hid (RunAt W0 w R S bv vals s fr pl rv tv pv) := h
  clear h
  go_enter Try.func77, Try.ntmps77
  go_wp2
  obtain ⟨x0, x1⟩ := box2 w (.int .i64 (an : Int)) (.int .i64 (bn : Int)) 136
  have h := HH0.out.later (Bel.alloc w (.cells #[.int .i64 (an : Int), .int .i64 (bn : Int)] 136))
  have HF : Hid (FrR R S w (w.alloc (.cells #[.int .i64 (an : Int), .int .i64 (bn : Int)] 136))) := FrR.ofBelow (Bel.alloc _ _)
  have hRB : R ≠ w.heap.size := by have := HH0.out.cells.lt.1; omega
  generalize w.alloc (.cells #[.int .i64 (an : Int), .int .i64 (bn : Int)] 136) = w1 at x0 x1 h HF ⊢
  generalize w.heap.size = B at x0 x1 hRB ⊢
  have cv := h.cells.cv an ha
  have HH : Hid (RunAt W0 w1 R S bv vals s fr pl rv tv pv) := h
  obtain ⟨y, HY⟩ : ∃ y, Hid (s.vals an = y) := ⟨_, rfl⟩
  rw [HY.out] at cv
  have HV2 : Hid (¬ cellOk y) := by
    show ¬ cellOk y
    rw [← HY.out]; exact HV.out
  clear h
  go_region_held3 (fun w' => w'.cell? ⟨R, 14 + an, none⟩ = some (.int .i64 y) ∧ w'.cell? ⟨B, 0, none⟩ = some (.int .i64 (an : Int))) (go_keep) (first | (go_at_call 115; refine (cell_no y HV2.out _).mono ?_; rintro e w2 ⟨rfl, hw2⟩; subst hw2))
  simp only [Exit.then]
  go_at_K
  go_wp2
  go_ret
  refine ⟨rfl, ⟨rv, tv, pv, ?_⟩, ?_⟩
  · first | exact HH.out.drew | exact HH.out
  · refine HF.out.trans ?_
    first | exact FrR.drew _ _ _ | exact FrR.refl _ _ _

end
end Go.Proofs.Ytkpddakmcnknjaa
