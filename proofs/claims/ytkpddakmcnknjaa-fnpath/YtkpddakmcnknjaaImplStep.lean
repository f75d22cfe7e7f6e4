/- A place of a list is done: the program's step, for each kind of place. -/
import Derived.Test.YtkpddakmcnknjaaImplRun1
import Derived.Test.YtkpddakmcnknjaaLast
namespace Go.Proofs.Ytkpddakmcnknjaa
open Go.ChangeShapes Go.WideShapes Go.ChangeAt Go.RowKit Go.Shelf
set_option linter.unusedVariables false

section
variable {P : Program} {ops : Array Oper} {Q : Exit → Act → World → Prop} {md : Region.Mode} {S : World → Prop} {m : Nat}
theorem wpAnyM_oneK {i : Nat} {o : Oper} {fuel : Nat} {li : Array Bool} {a : Act} {w : World} (ho : ops[i]? = some o) (hg : o.guard = none) (hr : Region.ready md ops li = [i])
    (h : ∀ K : Act → World → Prop, (∀ a' w', ((i ≠ m → S w') ∧ wpAnyM P md ops Q m S fuel (li.setIfInBounds i true) a' w') → K a' w') → o.wp P a w K Q) : wpAnyM P md ops Q m S (fuel + 1) li a w :=
  wpAnyM_one ho hg hr (h _ (fun _ _ h => h))
theorem wpAnyM_twoK {i j : Nat} {o o2 : Oper} {fuel : Nat} {li : Array Bool} {a : Act} {w : World} (ho : ops[i]? = some o) (hg : o.guard = none) (ho2 : ops[j]? = some o2) (hg2 : o2.guard = none) (hr : Region.ready md ops li = [i, j])
    (h : ∀ K : Act → World → Prop, (∀ a' w', ((i ≠ m → S w') ∧ wpAnyM P md ops Q m S fuel (li.setIfInBounds i true) a' w') → K a' w') → o.wp P a w K Q)
    (h2 : ∀ K : Act → World → Prop, (∀ a' w', ((j ≠ m → S w') ∧ wpAnyM P md ops Q m S fuel (li.setIfInBounds j true) a' w') → K a' w') → o2.wp P a w K Q) : wpAnyM P md ops Q m S (fuel + 1) li a w := by
  refine ⟨fun h0 => (by rw [hr] at h0; simp at h0), fun q hq => ?_⟩
  rw [hr] at hq
  have hq2 : q = i ∨ q = j := by simpa using hq
  rcases hq2 with e | e
  · subst e
    unfold wpOp
    simp only [ho]
    rw [if_pos (by simp [Region.wanted, hg])]
    exact .inl (h _ (fun _ _ h => h))
  · subst e
    unfold wpOp
    simp only [ho2]
    rw [if_pos (by simp [Region.wanted, hg2])]
    exact .inl (h2 _ (fun _ _ h => h))
end
theorem keep_copy {w : World} {R d a : Nat} {y : Int} (c : w.cell? ⟨R, 14 + a, none⟩ = some (.int .i64 y)) : (w.setCell ⟨R, 14 + d, none⟩ (.int .i64 y)).cell? ⟨R, 14 + a, none⟩ = some (.int .i64 y) := by
  by_cases e : a = d
  · subst e
    exact World.cell?_setCell_same _ _ _ c
  · exact far_off c (by omega)

section
variable {W0 : World} {R S : Nat} {bv : Value} {vals : Int} {s : RunS} {fr pl : Int}

set_option maxHeartbeats 1000000 in
theorem step_fuel (op d a b n : Int) (w : World) (h : RunIs W0 w R S bv vals s fr pl) (hf : s.fuel = 0) :
    Calls Try.prog 49 #[.pointer (some ⟨R, 0, none⟩), .agg #[.int .i64 op, .int .i64 d, .int .i64 a, .int .i64 b, .int .i64 n]] w fun e w' => e = .returned (.int .i64 1) ∧ RunTo W0 R S bv vals fr pl w s w' := by
  have HH0 : Hid (RunIs W0 w R S bv vals s fr pl) := h
  clear h
  go_enter Try.func49, Try.ntmps49
  go_wp2_with fail
  refine (burn_none (W0 := W0) (S := S) (bv := bv) (vals := vals) (s := s) (fr := fr) (pl := pl) _ (HH0.out.later (Bel.alloc w _)) hf).mono ?_
  rintro e w1 ⟨rfl, hw1⟩
  subst hw1
  go_wp2
  go_ret
  exact ⟨rfl, HH0.out.later (Bel.alloc w _), FrR.ofBelow (Bel.alloc w _)⟩

set_option maxRecDepth 100000 in
set_option maxHeartbeats 4000000 in
theorem step_const (d : Nat) (n : Int) (hd : d < 80) (w : World) (h : RunIs W0 w R S bv vals s fr pl) {k : Nat} (hf : s.fuel = k + 1) (hk : k ≤ 5000) :
    Calls Try.prog 49 #[.pointer (some ⟨R, 0, none⟩), .agg #[.int .i64 20, .int .i64 (d : Int), .int .i64 0, .int .i64 0, .int .i64 n]] w fun e w' => e = .returned (.int .i64 0) ∧ RunTo W0 R S bv vals fr pl w { s with fuel := k, vals := updN s.vals d n } w' := by
  have hp : placeV 20 (d : Int) 0 0 n = .iface 131 (.agg #[.int .i64 (d : Int), .int .i64 (n : Int)]) := by simp [placeV]
  have HF0 : Hid (s.fuel = k + 1) := hf
  have HH0 : Hid (RunIs W0 w R S bv vals s fr pl) := h
  have hRB : w.heap.size ≠ R := by have := h.lt.1; omega
  have hSB : w.heap.size ≠ S := by have := h.lt.2; omega
  have hd2 : (d : Int) < 80 := by omega
  clear h hf
  go_enter Try.func49, Try.ntmps49
  go_wp2_with fail
  refine (burn_one (W0 := W0) (S := S) (bv := bv) (vals := vals) (s := s) (fr := fr) (pl := pl) _ (HH0.out.later (Bel.alloc w _)) HF0.out hk).mono ?_
  rintro e w1 ⟨rfl, h1, f1⟩
  have bx := f1.box (B := w.heap.size) (World.alloc_heap_new w _) hRB hSB (by decide)
  have HF1 : Hid (FrR R S w w1) := (FrR.ofBelow (Bel.alloc w _)).trans f1
  have HH1 : Hid (RunIs W0 w1 R S bv vals { s with fuel := k } fr pl) := h1
  have e0 : w1.cell? ⟨w.heap.size, 0, none⟩ = some (.int .i64 20) := by simp [World.cell?, bx]
  have e1 : w1.cell? ⟨w.heap.size, 1, none⟩ = some (.int .i64 (d : Int)) := by simp [World.cell?, bx]
  have e2 : w1.cell? ⟨w.heap.size, 2, none⟩ = some (.int .i64 0) := by simp [World.cell?, bx]
  have e3 : w1.cell? ⟨w.heap.size, 3, none⟩ = some (.int .i64 0) := by simp [World.cell?, bx]
  have e4 : w1.cell? ⟨w.heap.size, 4, none⟩ = some (.int .i64 n) := by simp [World.cell?, bx]
  clear h1 f1 bx
  go_wp2_with fail
  refine (placeOf_any 20 (d : Int) 0 0 n w1).mono ?_
  rintro e w2 ⟨rfl, b2⟩
  rw [hp]
  have HF2 : Hid (FrR R S w w2) := HF1.out.trans (FrR.ofBelow b2)
  have HH2 : Hid (RunIs W0 w2 R S bv vals { s with fuel := k } fr pl) := HH1.out.later b2
  clear b2 e0 e1 e2 e3 e4
  have nword := wordPlace_no
  have yconst := constPlace_yes
  go_wp2_with fail
  have h := HH2.out.later (Bel.alloc w2 (.cells #[.int .i64 (d : Int), .int .i64 (n : Int)] 131))
  have x0 : (w2.alloc (.cells #[.int .i64 (d : Int), .int .i64 (n : Int)] 131)).cell? ⟨w2.heap.size, 0, none⟩ = some (.int .i64 (d : Int)) := by simp only [World.cell?]; rw [World.alloc_heap_new]; rfl
  have x1 : (w2.alloc (.cells #[.int .i64 (d : Int), .int .i64 (n : Int)] 131)).cell? ⟨w2.heap.size, 1, none⟩ = some (.int .i64 (n : Int)) := by simp only [World.cell?]; rw [World.alloc_heap_new]; rfl
  have HF : Hid (FrR R S w (w2.alloc (.cells #[.int .i64 (d : Int), .int .i64 (n : Int)] 131))) := HF2.out.trans (FrR.ofBelow (Bel.alloc _ _))
  have hRX : R ≠ w2.heap.size := by have := HH2.out.lt.1; omega
  have hSX : w2.heap.size ≠ S := by have := HH2.out.lt.2; omega
  have HBX : Hid ((w2.alloc (.cells #[.int .i64 (d : Int), .int .i64 (n : Int)] 131)).heap[w2.heap.size]? = some (.cells #[.int .i64 (d : Int), .int .i64 (n : Int)] 131 (0, 0))) := World.alloc_heap_new w2 _
  generalize w2.alloc (.cells #[.int .i64 (d : Int), .int .i64 (n : Int)] 131) = w3 at x0 x1 h HF HBX ⊢
  generalize w2.heap.size = B at x0 x1 hRX hSX HBX ⊢
  obtain ⟨rv, tv, pv, h⟩ := h
  have HH : Hid (RunAt W0 w3 R S bv vals { s with fuel := k } fr pl rv tv pv) := h
  have cd := h.cells.cv d hd
  obtain ⟨z, Hz⟩ : ∃ z, Hid (s.vals d = z) := ⟨_, rfl⟩
  simp only [Hz.out] at cd
  have fz := h.frozen (14 + d)
  clear h
  go_region_held3 (fun w' => w'.cell? ⟨B, 0, none⟩ = some (.int .i64 (d : Int)) ∧ w'.cell? ⟨B, 1, none⟩ = some (.int .i64 n)) (first | exact ⟨far_block x0 hRX, far_block x1 hRX⟩ | go_keep) (fail)
  simp only [Exit.inBlock, Exit.then]
  go_at_K
  go_wp2
  go_ret
  refine ⟨rfl, ⟨rv, tv, pv, ?_⟩, ?_⟩
  · first | exact (HH.out.setVal hd n).drew | exact HH.out.setVal hd n
  · refine HF.out.trans ((FrR.setR R S (14 + d) (.int .i64 n) w3).trans ?_)
    first | exact FrR.refl _ _ _ | exact FrR.drew _ _ _ | exact (FrR.drew _ _ _).trans (FrR.drew _ _ _)

set_option maxRecDepth 100000 in
set_option maxHeartbeats 4000000 in
theorem step_copy (d a : Nat) (hd : d < 80) (ha : a < 80) (w : World) (h : RunIs W0 w R S bv vals s fr pl) {k : Nat} (hf : s.fuel = k + 1) (hk : k ≤ 5000) :
    Calls Try.prog 49 #[.pointer (some ⟨R, 0, none⟩), .agg #[.int .i64 25, .int .i64 (d : Int), .int .i64 (a : Int), .int .i64 0, .int .i64 0]] w fun e w' => e = .returned (.int .i64 0) ∧ RunTo W0 R S bv vals fr pl w { s with fuel := k, vals := updN s.vals d (s.vals a) } w' := by
  have hp : placeV 25 (d : Int) (a : Int) 0 0 = .iface 144 (.agg #[.int .i64 (d : Int), .int .i64 (a : Int)]) := by simp [placeV]
  have HF0 : Hid (s.fuel = k + 1) := hf
  have HH0 : Hid (RunIs W0 w R S bv vals s fr pl) := h
  have hRB : w.heap.size ≠ R := by have := h.lt.1; omega
  have hSB : w.heap.size ≠ S := by have := h.lt.2; omega
  have hd2 : (d : Int) < 80 := by omega
  have ha2 : (a : Int) < 80 := by omega
  clear h hf
  go_enter Try.func49, Try.ntmps49
  go_wp2_with fail
  refine (burn_one (W0 := W0) (S := S) (bv := bv) (vals := vals) (s := s) (fr := fr) (pl := pl) _ (HH0.out.later (Bel.alloc w _)) HF0.out hk).mono ?_
  rintro e w1 ⟨rfl, h1, f1⟩
  have bx := f1.box (B := w.heap.size) (World.alloc_heap_new w _) hRB hSB (by decide)
  have HF1 : Hid (FrR R S w w1) := (FrR.ofBelow (Bel.alloc w _)).trans f1
  have HH1 : Hid (RunIs W0 w1 R S bv vals { s with fuel := k } fr pl) := h1
  have e0 : w1.cell? ⟨w.heap.size, 0, none⟩ = some (.int .i64 25) := by simp [World.cell?, bx]
  have e1 : w1.cell? ⟨w.heap.size, 1, none⟩ = some (.int .i64 (d : Int)) := by simp [World.cell?, bx]
  have e2 : w1.cell? ⟨w.heap.size, 2, none⟩ = some (.int .i64 (a : Int)) := by simp [World.cell?, bx]
  have e3 : w1.cell? ⟨w.heap.size, 3, none⟩ = some (.int .i64 0) := by simp [World.cell?, bx]
  have e4 : w1.cell? ⟨w.heap.size, 4, none⟩ = some (.int .i64 0) := by simp [World.cell?, bx]
  clear h1 f1 bx
  go_wp2_with fail
  refine (placeOf_any 25 (d : Int) (a : Int) 0 0 w1).mono ?_
  rintro e w2 ⟨rfl, b2⟩
  rw [hp]
  have HF2 : Hid (FrR R S w w2) := HF1.out.trans (FrR.ofBelow b2)
  have HH2 : Hid (RunIs W0 w2 R S bv vals { s with fuel := k } fr pl) := HH1.out.later b2
  clear b2 e0 e1 e2 e3 e4
  have nword := wordPlace_no
  have nconst := constPlace_no
  have nload := loadPlace_no
  have nstore := storePlace_no
  have nout := outPlace_no
  have nread := readPlace_no
  have ycopy := copyPlace_yes
  go_wp2_with fail
  have h := HH2.out.later (Bel.alloc w2 (.cells #[.int .i64 (d : Int), .int .i64 (a : Int)] 144))
  have x0 : (w2.alloc (.cells #[.int .i64 (d : Int), .int .i64 (a : Int)] 144)).cell? ⟨w2.heap.size, 0, none⟩ = some (.int .i64 (d : Int)) := by simp only [World.cell?]; rw [World.alloc_heap_new]; rfl
  have x1 : (w2.alloc (.cells #[.int .i64 (d : Int), .int .i64 (a : Int)] 144)).cell? ⟨w2.heap.size, 1, none⟩ = some (.int .i64 (a : Int)) := by simp only [World.cell?]; rw [World.alloc_heap_new]; rfl
  have HF : Hid (FrR R S w (w2.alloc (.cells #[.int .i64 (d : Int), .int .i64 (a : Int)] 144))) := HF2.out.trans (FrR.ofBelow (Bel.alloc _ _))
  have hRX : R ≠ w2.heap.size := by have := HH2.out.lt.1; omega
  have hSX : w2.heap.size ≠ S := by have := HH2.out.lt.2; omega
  have HBX : Hid ((w2.alloc (.cells #[.int .i64 (d : Int), .int .i64 (a : Int)] 144)).heap[w2.heap.size]? = some (.cells #[.int .i64 (d : Int), .int .i64 (a : Int)] 144 (0, 0))) := World.alloc_heap_new w2 _
  generalize w2.alloc (.cells #[.int .i64 (d : Int), .int .i64 (a : Int)] 144) = w3 at x0 x1 h HF HBX ⊢
  generalize w2.heap.size = B at x0 x1 hRX hSX HBX ⊢
  obtain ⟨rv, tv, pv, h⟩ := h
  have HH : Hid (RunAt W0 w3 R S bv vals { s with fuel := k } fr pl rv tv pv) := h
  have cd := h.cells.cv d hd
  obtain ⟨z, Hz⟩ : ∃ z, Hid (s.vals d = z) := ⟨_, rfl⟩
  simp only [Hz.out] at cd
  have ca := h.cells.cv a ha
  obtain ⟨y, Hy⟩ : ∃ y, Hid (s.vals a = y) := ⟨_, rfl⟩
  simp only [Hy.out] at ca
  have fz := h.frozen (14 + d)
  clear h
  go_region_held3 (fun w' => w'.cell? ⟨B, 0, none⟩ = some (.int .i64 (d : Int)) ∧ w'.cell? ⟨B, 1, none⟩ = some (.int .i64 (a : Int)) ∧ w'.cell? ⟨R, 14 + a, none⟩ = some (.int .i64 y)) (first | exact ⟨far_block x0 hRX, far_block x1 hRX, keep_copy ca⟩ | go_keep) (fail)
  simp only [Exit.inBlock, Exit.then]
  go_at_K
  go_wp2
  go_ret
  refine ⟨rfl, ⟨rv, tv, pv, ?_⟩, ?_⟩
  · rw [Hy.out]
    first | exact (HH.out.setVal hd y).drew | exact HH.out.setVal hd y
  · refine HF.out.trans ((FrR.setR R S (14 + d) (.int .i64 y) w3).trans ?_)
    first | exact FrR.refl _ _ _ | exact FrR.drew _ _ _ | exact (FrR.drew _ _ _).trans (FrR.drew _ _ _)

set_option maxRecDepth 100000 in
set_option maxHeartbeats 4000000 in
theorem step_word (op : Int) (d a b : Nat) (hd : d < 80) (ha : a < 80) (hb : b < 80) (q0 : (op == 20) = false) (q1 : (op == 21) = false) (q2 : (op == 22) = false) (q3 : (op == 23) = false) (q4 : (op == 24) = false) (q5 : (op == 25) = false) (hop : 1 ≤ op) (hop1 : op ≤ 10) (w : World) (h : RunIs W0 w R S bv vals s fr pl) {k : Nat} (hf : s.fuel = k + 1) (hk : k ≤ 5000) :
    Calls Try.prog 49 #[.pointer (some ⟨R, 0, none⟩), .agg #[.int .i64 op, .int .i64 (d : Int), .int .i64 (a : Int), .int .i64 (b : Int), .int .i64 0]] w fun e w' => e = .returned (.int .i64 0) ∧ RunTo W0 R S bv vals fr pl w { s with fuel := k, vals := updN s.vals d (wordV op (s.vals a) (s.vals b)) } w' := by
  have hp : placeV op (d : Int) (a : Int) (b : Int) 0 = .iface 128 (.agg #[.int .i64 (op : Int), .int .i64 (d : Int), .int .i64 (a : Int), .int .i64 (b : Int)]) := by exact placeV_word q0 q1 q2 q3 q4 q5 hop hop1
  have HF0 : Hid (s.fuel = k + 1) := hf
  have HH0 : Hid (RunIs W0 w R S bv vals s fr pl) := h
  have hRB : w.heap.size ≠ R := by have := h.lt.1; omega
  have hSB : w.heap.size ≠ S := by have := h.lt.2; omega
  have hd2 : (d : Int) < 80 := by omega
  have ha2 : (a : Int) < 80 := by omega
  have hb2 : (b : Int) < 80 := by omega
  clear h hf
  go_enter Try.func49, Try.ntmps49
  go_wp2_with fail
  refine (burn_one (W0 := W0) (S := S) (bv := bv) (vals := vals) (s := s) (fr := fr) (pl := pl) _ (HH0.out.later (Bel.alloc w _)) HF0.out hk).mono ?_
  rintro e w1 ⟨rfl, h1, f1⟩
  have bx := f1.box (B := w.heap.size) (World.alloc_heap_new w _) hRB hSB (by decide)
  have HF1 : Hid (FrR R S w w1) := (FrR.ofBelow (Bel.alloc w _)).trans f1
  have HH1 : Hid (RunIs W0 w1 R S bv vals { s with fuel := k } fr pl) := h1
  have e0 : w1.cell? ⟨w.heap.size, 0, none⟩ = some (.int .i64 op) := by simp [World.cell?, bx]
  have e1 : w1.cell? ⟨w.heap.size, 1, none⟩ = some (.int .i64 (d : Int)) := by simp [World.cell?, bx]
  have e2 : w1.cell? ⟨w.heap.size, 2, none⟩ = some (.int .i64 (a : Int)) := by simp [World.cell?, bx]
  have e3 : w1.cell? ⟨w.heap.size, 3, none⟩ = some (.int .i64 (b : Int)) := by simp [World.cell?, bx]
  have e4 : w1.cell? ⟨w.heap.size, 4, none⟩ = some (.int .i64 0) := by simp [World.cell?, bx]
  clear h1 f1 bx
  go_wp2_with fail
  refine (placeOf_any op (d : Int) (a : Int) (b : Int) 0 w1).mono ?_
  rintro e w2 ⟨rfl, b2⟩
  rw [hp]
  have HF2 : Hid (FrR R S w w2) := HF1.out.trans (FrR.ofBelow b2)
  have HH2 : Hid (RunIs W0 w2 R S bv vals { s with fuel := k } fr pl) := HH1.out.later b2
  clear b2 e0 e1 e2 e3 e4
  have yword := wordPlace_yes
  go_wp2_with fail
  have h := HH2.out.later (Bel.alloc w2 (.cells #[.int .i64 (op : Int), .int .i64 (d : Int), .int .i64 (a : Int), .int .i64 (b : Int)] 128))
  have x0 : (w2.alloc (.cells #[.int .i64 (op : Int), .int .i64 (d : Int), .int .i64 (a : Int), .int .i64 (b : Int)] 128)).cell? ⟨w2.heap.size, 0, none⟩ = some (.int .i64 (op : Int)) := by simp only [World.cell?]; rw [World.alloc_heap_new]; rfl
  have x1 : (w2.alloc (.cells #[.int .i64 (op : Int), .int .i64 (d : Int), .int .i64 (a : Int), .int .i64 (b : Int)] 128)).cell? ⟨w2.heap.size, 1, none⟩ = some (.int .i64 (d : Int)) := by simp only [World.cell?]; rw [World.alloc_heap_new]; rfl
  have x2 : (w2.alloc (.cells #[.int .i64 (op : Int), .int .i64 (d : Int), .int .i64 (a : Int), .int .i64 (b : Int)] 128)).cell? ⟨w2.heap.size, 2, none⟩ = some (.int .i64 (a : Int)) := by simp only [World.cell?]; rw [World.alloc_heap_new]; rfl
  have x3 : (w2.alloc (.cells #[.int .i64 (op : Int), .int .i64 (d : Int), .int .i64 (a : Int), .int .i64 (b : Int)] 128)).cell? ⟨w2.heap.size, 3, none⟩ = some (.int .i64 (b : Int)) := by simp only [World.cell?]; rw [World.alloc_heap_new]; rfl
  have HF : Hid (FrR R S w (w2.alloc (.cells #[.int .i64 (op : Int), .int .i64 (d : Int), .int .i64 (a : Int), .int .i64 (b : Int)] 128))) := HF2.out.trans (FrR.ofBelow (Bel.alloc _ _))
  have hRX : R ≠ w2.heap.size := by have := HH2.out.lt.1; omega
  have hSX : w2.heap.size ≠ S := by have := HH2.out.lt.2; omega
  have HBX : Hid ((w2.alloc (.cells #[.int .i64 (op : Int), .int .i64 (d : Int), .int .i64 (a : Int), .int .i64 (b : Int)] 128)).heap[w2.heap.size]? = some (.cells #[.int .i64 (op : Int), .int .i64 (d : Int), .int .i64 (a : Int), .int .i64 (b : Int)] 128 (0, 0))) := World.alloc_heap_new w2 _
  generalize w2.alloc (.cells #[.int .i64 (op : Int), .int .i64 (d : Int), .int .i64 (a : Int), .int .i64 (b : Int)] 128) = w3 at x0 x1 x2 x3 h HF HBX ⊢
  generalize w2.heap.size = B at x0 x1 x2 x3 hRX hSX HBX ⊢
  obtain ⟨rv, tv, pv, h⟩ := h
  have HH : Hid (RunAt W0 w3 R S bv vals { s with fuel := k } fr pl rv tv pv) := h
  have ca := h.cells.cv a ha
  obtain ⟨y, Hy⟩ : ∃ y, Hid (s.vals a = y) := ⟨_, rfl⟩
  simp only [Hy.out] at ca
  have cb := h.cells.cv b hb
  obtain ⟨x, Hx⟩ : ∃ x, Hid (s.vals b = x) := ⟨_, rfl⟩
  simp only [Hx.out] at cb
  clear h
  have hS : w3.drew.cell? ⟨B, 0, none⟩ = some (.int .i64 op) ∧ w3.drew.cell? ⟨B, 1, none⟩ = some (.int .i64 (d : Int)) ∧ w3.drew.cell? ⟨B, 2, none⟩ = some (.int .i64 (a : Int)) ∧ w3.drew.cell? ⟨B, 3, none⟩ = some (.int .i64 (b : Int)) ∧ w3.drew.cell? ⟨R, 14 + a, none⟩ = some (.int .i64 y) ∧ w3.drew.cell? ⟨R, 14 + b, none⟩ = some (.int .i64 x) := ⟨x0, x1, x2, x3, ca, cb⟩
  refine region_M 20 (fun w' => w'.cell? ⟨B, 0, none⟩ = some (.int .i64 op) ∧ w'.cell? ⟨B, 1, none⟩ = some (.int .i64 (d : Int)) ∧ w'.cell? ⟨B, 2, none⟩ = some (.int .i64 (a : Int)) ∧ w'.cell? ⟨B, 3, none⟩ = some (.int .i64 (b : Int)) ∧ w'.cell? ⟨R, 14 + a, none⟩ = some (.int .i64 y) ∧ w'.cell? ⟨R, 14 + b, none⟩ = some (.int .i64 x)) (by kernel_rfl) ?_
  refine wpAnyM_take (i := 0) (oi := { dst := some 26, op := Op.move (Operand.tmp 5), type := 123, pos := "l06_run.go:150", after := #[], guard := none }) (v := .pointer (some ⟨R, 14, none⟩)) rfl (by kernel_rfl) (by kernel_rfl) (by kernel_rfl) (by kernel_rfl) (fun _ _ _ h => h) (Or.inl ⟨by rfl, fun W hW => by obtain ⟨q0, q1, q2, q3, q4, q5⟩ := hW; go_simp⟩) hS ?_
  simp only [Act.put, List.setIfInBounds_toArray, List.set_cons_zero, List.set_cons_succ]
  refine wpAnyM_take (i := 1) (oi := { dst := some 27, op := Op.fieldAddr 128 (Operand.tmp 6) 1, type := 0, pos := "l06_run.go:150", after := #[], guard := none }) (v := .pointer (some ⟨B, 1, none⟩)) rfl (by kernel_rfl) (by kernel_rfl) (by kernel_rfl) (by kernel_rfl) (fun _ _ _ h => h) (Or.inl ⟨by rfl, fun W hW => by obtain ⟨q0, q1, q2, q3, q4, q5⟩ := hW; go_simp⟩) hS ?_
  simp only [Act.put, List.setIfInBounds_toArray, List.set_cons_zero, List.set_cons_succ]
  refine wpAnyM_take (i := 2) (oi := { dst := some 28, op := Op.load 3 (Operand.tmp 27), type := 3, pos := "l06_run.go:150", after := #[{ on := 1, ground := Ground.data }], guard := none }) (v := .int .i64 (d : Int)) rfl (by kernel_rfl) (by kernel_rfl) (by kernel_rfl) (by kernel_rfl) (fun _ _ _ h => h) (Or.inl ⟨by rfl, fun W hW => by obtain ⟨q0, q1, q2, q3, q4, q5⟩ := hW; go_simp⟩) hS ?_
  simp only [Act.put, List.setIfInBounds_toArray, List.set_cons_zero, List.set_cons_succ]
  refine wpAnyM_take (i := 3) (oi := { dst := some 29, op := Op.fieldAddr 128 (Operand.tmp 6) 0, type := 0, pos := "l06_run.go:150", after := #[], guard := none }) (v := .pointer (some ⟨B, 0, none⟩)) rfl (by kernel_rfl) (by kernel_rfl) (by kernel_rfl) (by kernel_rfl) (fun _ _ _ h => h) (Or.inl ⟨by rfl, fun W hW => by obtain ⟨q0, q1, q2, q3, q4, q5⟩ := hW; go_simp⟩) hS ?_
  simp only [Act.put, List.setIfInBounds_toArray, List.set_cons_zero, List.set_cons_succ]
  refine wpAnyM_take (i := 4) (oi := { dst := some 30, op := Op.load 3 (Operand.tmp 29), type := 3, pos := "l06_run.go:150", after := #[{ on := 3, ground := Ground.data }], guard := none }) (v := .int .i64 op) rfl (by kernel_rfl) (by kernel_rfl) (by kernel_rfl) (by kernel_rfl) (fun _ _ _ h => h) (Or.inl ⟨by rfl, fun W hW => by obtain ⟨q0, q1, q2, q3, q4, q5⟩ := hW; go_simp⟩) hS ?_
  simp only [Act.put, List.setIfInBounds_toArray, List.set_cons_zero, List.set_cons_succ]
  refine wpAnyM_take (i := 5) (oi := { dst := some 31, op := Op.move (Operand.tmp 5), type := 123, pos := "l06_run.go:150", after := #[], guard := none }) (v := .pointer (some ⟨R, 14, none⟩)) rfl (by kernel_rfl) (by kernel_rfl) (by kernel_rfl) (by kernel_rfl) (fun _ _ _ h => h) (Or.inl ⟨by rfl, fun W hW => by obtain ⟨q0, q1, q2, q3, q4, q5⟩ := hW; go_simp⟩) hS ?_
  simp only [Act.put, List.setIfInBounds_toArray, List.set_cons_zero, List.set_cons_succ]
  refine wpAnyM_take (i := 6) (oi := { dst := some 32, op := Op.fieldAddr 128 (Operand.tmp 6) 2, type := 0, pos := "l06_run.go:150", after := #[], guard := none }) (v := .pointer (some ⟨B, 2, none⟩)) rfl (by kernel_rfl) (by kernel_rfl) (by kernel_rfl) (by kernel_rfl) (fun _ _ _ h => h) (Or.inl ⟨by rfl, fun W hW => by obtain ⟨q0, q1, q2, q3, q4, q5⟩ := hW; go_simp⟩) hS ?_
  simp only [Act.put, List.setIfInBounds_toArray, List.set_cons_zero, List.set_cons_succ]
  refine wpAnyM_take (i := 7) (oi := { dst := some 33, op := Op.load 3 (Operand.tmp 32), type := 3, pos := "l06_run.go:150", after := #[{ on := 6, ground := Ground.data }], guard := none }) (v := .int .i64 (a : Int)) rfl (by kernel_rfl) (by kernel_rfl) (by kernel_rfl) (by kernel_rfl) (fun _ _ _ h => h) (Or.inl ⟨by rfl, fun W hW => by obtain ⟨q0, q1, q2, q3, q4, q5⟩ := hW; go_simp⟩) hS ?_
  simp only [Act.put, List.setIfInBounds_toArray, List.set_cons_zero, List.set_cons_succ]
  refine wpAnyM_take (i := 8) (oi := { dst := some 34, op := Op.nilCheck (Operand.tmp 31), type := 0, pos := "l06_run.go:150", after := #[{ on := 5, ground := Ground.data }], guard := none }) (v := .pointer (some ⟨R, 14, none⟩)) rfl (by kernel_rfl) (by kernel_rfl) (by kernel_rfl) (by kernel_rfl) (fun _ _ _ h => h) (Or.inl ⟨by rfl, fun W hW => by obtain ⟨q0, q1, q2, q3, q4, q5⟩ := hW; go_simp⟩) hS ?_
  simp only [Act.put, List.setIfInBounds_toArray, List.set_cons_zero, List.set_cons_succ]
  refine wpAnyM_take (i := 9) (oi := { dst := some 35, op := Op.indexAddr 63 (Operand.tmp 34) (Operand.tmp 33), type := 0, pos := "l06_run.go:150", after := #[{ on := 8, ground := Ground.data }, { on := 7, ground := Ground.data }], guard := none }) (v := .pointer (some ⟨R, 14 + a, none⟩)) rfl (by kernel_rfl) (by kernel_rfl) (by kernel_rfl) (by kernel_rfl) (fun _ _ _ h => h) (Or.inl ⟨by rfl, fun W hW => by obtain ⟨q0, q1, q2, q3, q4, q5⟩ := hW; go_simp⟩) hS ?_
  simp only [Act.put, List.setIfInBounds_toArray, List.set_cons_zero, List.set_cons_succ]
  refine wpAnyM_take (i := 10) (oi := { dst := some 36, op := Op.load 3 (Operand.tmp 35), type := 3, pos := "l06_run.go:150", after := #[{ on := 9, ground := Ground.data }], guard := none }) (v := .int .i64 y) rfl (by kernel_rfl) (by kernel_rfl) (by kernel_rfl) (by kernel_rfl) (fun _ _ _ h => h) (Or.inl ⟨by rfl, fun W hW => by obtain ⟨q0, q1, q2, q3, q4, q5⟩ := hW; go_simp⟩) hS ?_
  simp only [Act.put, List.setIfInBounds_toArray, List.set_cons_zero, List.set_cons_succ]
  refine wpAnyM_take (i := 11) (oi := { dst := some 37, op := Op.move (Operand.tmp 5), type := 123, pos := "l06_run.go:150", after := #[], guard := none }) (v := .pointer (some ⟨R, 14, none⟩)) rfl (by kernel_rfl) (by kernel_rfl) (by kernel_rfl) (by kernel_rfl) (fun _ _ _ h => h) (Or.inl ⟨by rfl, fun W hW => by obtain ⟨q0, q1, q2, q3, q4, q5⟩ := hW; go_simp⟩) hS ?_
  simp only [Act.put, List.setIfInBounds_toArray, List.set_cons_zero, List.set_cons_succ]
  refine wpAnyM_take (i := 12) (oi := { dst := some 38, op := Op.fieldAddr 128 (Operand.tmp 6) 3, type := 0, pos := "l06_run.go:150", after := #[], guard := none }) (v := .pointer (some ⟨B, 3, none⟩)) rfl (by kernel_rfl) (by kernel_rfl) (by kernel_rfl) (by kernel_rfl) (fun _ _ _ h => h) (Or.inl ⟨by rfl, fun W hW => by obtain ⟨q0, q1, q2, q3, q4, q5⟩ := hW; go_simp⟩) hS ?_
  simp only [Act.put, List.setIfInBounds_toArray, List.set_cons_zero, List.set_cons_succ]
  refine wpAnyM_take (i := 13) (oi := { dst := some 39, op := Op.load 3 (Operand.tmp 38), type := 3, pos := "l06_run.go:150", after := #[{ on := 12, ground := Ground.data }], guard := none }) (v := .int .i64 (b : Int)) rfl (by kernel_rfl) (by kernel_rfl) (by kernel_rfl) (by kernel_rfl) (fun _ _ _ h => h) (Or.inl ⟨by rfl, fun W hW => by obtain ⟨q0, q1, q2, q3, q4, q5⟩ := hW; go_simp⟩) hS ?_
  simp only [Act.put, List.setIfInBounds_toArray, List.set_cons_zero, List.set_cons_succ]
  refine wpAnyM_take (i := 14) (oi := { dst := some 40, op := Op.nilCheck (Operand.tmp 37), type := 0, pos := "l06_run.go:150", after := #[{ on := 11, ground := Ground.data }], guard := none }) (v := .pointer (some ⟨R, 14, none⟩)) rfl (by kernel_rfl) (by kernel_rfl) (by kernel_rfl) (by kernel_rfl) (fun _ _ _ h => h) (Or.inl ⟨by rfl, fun W hW => by obtain ⟨q0, q1, q2, q3, q4, q5⟩ := hW; go_simp⟩) hS ?_
  simp only [Act.put, List.setIfInBounds_toArray, List.set_cons_zero, List.set_cons_succ]
  refine wpAnyM_take (i := 15) (oi := { dst := some 41, op := Op.indexAddr 63 (Operand.tmp 40) (Operand.tmp 39), type := 0, pos := "l06_run.go:150", after := #[{ on := 14, ground := Ground.data }, { on := 13, ground := Ground.data }], guard := none }) (v := .pointer (some ⟨R, 14 + b, none⟩)) rfl (by kernel_rfl) (by kernel_rfl) (by kernel_rfl) (by kernel_rfl) (fun _ _ _ h => h) (Or.inl ⟨by rfl, fun W hW => by obtain ⟨q0, q1, q2, q3, q4, q5⟩ := hW; go_simp⟩) hS ?_
  simp only [Act.put, List.setIfInBounds_toArray, List.set_cons_zero, List.set_cons_succ]
  refine wpAnyM_take (i := 16) (oi := { dst := some 42, op := Op.load 3 (Operand.tmp 41), type := 3, pos := "l06_run.go:150", after := #[{ on := 15, ground := Ground.data }], guard := none }) (v := .int .i64 x) rfl (by kernel_rfl) (by kernel_rfl) (by kernel_rfl) (by kernel_rfl) (fun _ _ _ h => h) (Or.inl ⟨by rfl, fun W hW => by obtain ⟨q0, q1, q2, q3, q4, q5⟩ := hW; go_simp⟩) hS ?_
  simp only [Act.put, List.setIfInBounds_toArray, List.set_cons_zero, List.set_cons_succ]
  refine wpAnyM_twoK (i := 17) (j := 18) (o := { dst := some 43, op := Op.call { callee := Callee.value (Operand.func 75), args := #[Operand.tmp 30, Operand.tmp 36, Operand.tmp 42], argTypes := #[3, 3, 3] }, type := 3, pos := "l06_run.go:150", after := #[{ on := 4, ground := Ground.data }, { on := 10, ground := Ground.data }, { on := 16, ground := Ground.data }], guard := none }) (o2 := { dst := some 44, op := Op.nilCheck (Operand.tmp 26), type := 0, pos := "l06_run.go:150", after := #[{ on := 0, ground := Ground.data }], guard := none }) rfl rfl rfl rfl (by kernel_rfl) (fun K hK => ?_) (fun K hK => ?_)
  · refine wp_call_of (f := 75) (args := #[.int .i64 op, .int .i64 y, .int .i64 x]) (by go_simp) (impl_word op y x _) ?_
    rintro e w4 ⟨rfl, hq⟩
    refine ⟨_, rfl, ?_⟩
    have h4 := HH.out.drew.later hq.2
    have HF4 : Hid (FrR R S w w4) := HF.out.trans ((FrR.drew R S w3).trans (FrR.ofBelow hq.2))
    have cd4 := h4.cells.cv d hd
    have fz4 := h4.frozen (14 + d)
    have HH4 : Hid (RunAt W0 w4 R S bv vals { s with fuel := k } fr pl rv tv pv) := h4
    refine hK _ _ ⟨fun _ => ⟨Bel.keeps hq.2 hS.1, Bel.keeps hq.2 hS.2.1, Bel.keeps hq.2 hS.2.2.1, Bel.keeps hq.2 hS.2.2.2.1, Bel.keeps hq.2 hS.2.2.2.2.1, Bel.keeps hq.2 hS.2.2.2.2.2⟩, ?_⟩
    have hS4 : w4.cell? ⟨B, 0, none⟩ = some (.int .i64 op) ∧ w4.cell? ⟨B, 1, none⟩ = some (.int .i64 (d : Int)) ∧ w4.cell? ⟨B, 2, none⟩ = some (.int .i64 (a : Int)) ∧ w4.cell? ⟨B, 3, none⟩ = some (.int .i64 (b : Int)) ∧ w4.cell? ⟨R, 14 + a, none⟩ = some (.int .i64 y) ∧ w4.cell? ⟨R, 14 + b, none⟩ = some (.int .i64 x) := ⟨Bel.keeps hq.2 hS.1, Bel.keeps hq.2 hS.2.1, Bel.keeps hq.2 hS.2.2.1, Bel.keeps hq.2 hS.2.2.2.1, Bel.keeps hq.2 hS.2.2.2.2.1, Bel.keeps hq.2 hS.2.2.2.2.2⟩
    clear hq h4 hK
    simp only [Act.put, List.setIfInBounds_toArray, List.set_cons_zero, List.set_cons_succ]
    refine wpAnyM_oneK (i := 18) (o := { dst := some 44, op := Op.nilCheck (Operand.tmp 26), type := 0, pos := "l06_run.go:150", after := #[{ on := 0, ground := Ground.data }], guard := none }) rfl rfl (by kernel_rfl) (fun K hK => ?_)
    go_simp
    refine hK _ _ ⟨fun _ => hS4, ?_⟩
    clear hK
    refine wpAnyM_oneK (i := 19) (o := { dst := some 45, op := Op.indexAddr 63 (Operand.tmp 44) (Operand.tmp 28), type := 0, pos := "l06_run.go:150", after := #[{ on := 18, ground := Ground.data }, { on := 2, ground := Ground.data }, { on := 0, ground := Ground.phase }, { on := 1, ground := Ground.phase }, { on := 2, ground := Ground.phase }, { on := 3, ground := Ground.phase }, { on := 4, ground := Ground.phase }, { on := 5, ground := Ground.phase }, { on := 6, ground := Ground.phase }, { on := 7, ground := Ground.phase }, { on := 8, ground := Ground.phase }, { on := 9, ground := Ground.phase }, { on := 10, ground := Ground.phase }, { on := 11, ground := Ground.phase }, { on := 12, ground := Ground.phase }, { on := 13, ground := Ground.phase }, { on := 14, ground := Ground.phase }, { on := 15, ground := Ground.phase }, { on := 16, ground := Ground.phase }, { on := 17, ground := Ground.phase }], guard := none }) rfl rfl (by kernel_rfl) (fun K hK => ?_)
    go_simp
    refine hK _ _ ⟨fun _ => hS4, ?_⟩
    clear hK
    refine wpAnyM_oneK (i := 20) (o := { dst := none, op := Op.store 3 (Operand.tmp 45) (Operand.tmp 43), type := 0, pos := "l06_run.go:150", after := #[{ on := 19, ground := Ground.data }, { on := 17, ground := Ground.data }, { on := 17, ground := Ground.chain }, { on := 0, ground := Ground.phase }, { on := 1, ground := Ground.phase }, { on := 2, ground := Ground.phase }, { on := 3, ground := Ground.phase }, { on := 4, ground := Ground.phase }, { on := 5, ground := Ground.phase }, { on := 6, ground := Ground.phase }, { on := 7, ground := Ground.phase }, { on := 8, ground := Ground.phase }, { on := 9, ground := Ground.phase }, { on := 10, ground := Ground.phase }, { on := 11, ground := Ground.phase }, { on := 12, ground := Ground.phase }, { on := 13, ground := Ground.phase }, { on := 14, ground := Ground.phase }, { on := 15, ground := Ground.phase }, { on := 16, ground := Ground.phase }, { on := 17, ground := Ground.phase }], guard := none }) rfl rfl (by kernel_rfl) (fun K hK => ?_)
    go_simp
    refine hK _ _ ⟨fun h => absurd rfl h, wpAnyM_done (by kernel_rfl) ?_ _⟩
    clear hK
    simp only [Exit.inBlock, Exit.then]
    go_at_K
    go_wp2
    go_ret
    refine ⟨rfl, ⟨rv, tv, pv, ?_⟩, ?_⟩
    · rw [Hy.out, Hx.out]
      exact HH4.out.setVal hd _
    · exact HF4.out.trans (FrR.setR R S (14 + d) (.int .i64 (wordV op y x)) w4)
  · go_simp
    refine hK _ _ ⟨fun _ => hS, ?_⟩
    clear hK
    refine wpAnyM_oneK (i := 17) (o := { dst := some 43, op := Op.call { callee := Callee.value (Operand.func 75), args := #[Operand.tmp 30, Operand.tmp 36, Operand.tmp 42], argTypes := #[3, 3, 3] }, type := 3, pos := "l06_run.go:150", after := #[{ on := 4, ground := Ground.data }, { on := 10, ground := Ground.data }, { on := 16, ground := Ground.data }], guard := none }) rfl rfl (by kernel_rfl) (fun K hK => ?_)
    refine wp_call_of (f := 75) (args := #[.int .i64 op, .int .i64 y, .int .i64 x]) (by go_simp) (impl_word op y x _) ?_
    rintro e w4 ⟨rfl, hq⟩
    refine ⟨_, rfl, ?_⟩
    have h4 := HH.out.drew.later hq.2
    have HF4 : Hid (FrR R S w w4) := HF.out.trans ((FrR.drew R S w3).trans (FrR.ofBelow hq.2))
    have cd4 := h4.cells.cv d hd
    have fz4 := h4.frozen (14 + d)
    have HH4 : Hid (RunAt W0 w4 R S bv vals { s with fuel := k } fr pl rv tv pv) := h4
    refine hK _ _ ⟨fun _ => ⟨Bel.keeps hq.2 hS.1, Bel.keeps hq.2 hS.2.1, Bel.keeps hq.2 hS.2.2.1, Bel.keeps hq.2 hS.2.2.2.1, Bel.keeps hq.2 hS.2.2.2.2.1, Bel.keeps hq.2 hS.2.2.2.2.2⟩, ?_⟩
    have hS4 : w4.cell? ⟨B, 0, none⟩ = some (.int .i64 op) ∧ w4.cell? ⟨B, 1, none⟩ = some (.int .i64 (d : Int)) ∧ w4.cell? ⟨B, 2, none⟩ = some (.int .i64 (a : Int)) ∧ w4.cell? ⟨B, 3, none⟩ = some (.int .i64 (b : Int)) ∧ w4.cell? ⟨R, 14 + a, none⟩ = some (.int .i64 y) ∧ w4.cell? ⟨R, 14 + b, none⟩ = some (.int .i64 x) := ⟨Bel.keeps hq.2 hS.1, Bel.keeps hq.2 hS.2.1, Bel.keeps hq.2 hS.2.2.1, Bel.keeps hq.2 hS.2.2.2.1, Bel.keeps hq.2 hS.2.2.2.2.1, Bel.keeps hq.2 hS.2.2.2.2.2⟩
    clear hq h4 hK
    simp only [Act.put, List.setIfInBounds_toArray, List.set_cons_zero, List.set_cons_succ]
    refine wpAnyM_oneK (i := 19) (o := { dst := some 45, op := Op.indexAddr 63 (Operand.tmp 44) (Operand.tmp 28), type := 0, pos := "l06_run.go:150", after := #[{ on := 18, ground := Ground.data }, { on := 2, ground := Ground.data }, { on := 0, ground := Ground.phase }, { on := 1, ground := Ground.phase }, { on := 2, ground := Ground.phase }, { on := 3, ground := Ground.phase }, { on := 4, ground := Ground.phase }, { on := 5, ground := Ground.phase }, { on := 6, ground := Ground.phase }, { on := 7, ground := Ground.phase }, { on := 8, ground := Ground.phase }, { on := 9, ground := Ground.phase }, { on := 10, ground := Ground.phase }, { on := 11, ground := Ground.phase }, { on := 12, ground := Ground.phase }, { on := 13, ground := Ground.phase }, { on := 14, ground := Ground.phase }, { on := 15, ground := Ground.phase }, { on := 16, ground := Ground.phase }, { on := 17, ground := Ground.phase }], guard := none }) rfl rfl (by kernel_rfl) (fun K hK => ?_)
    go_simp
    refine hK _ _ ⟨fun _ => hS4, ?_⟩
    clear hK
    refine wpAnyM_oneK (i := 20) (o := { dst := none, op := Op.store 3 (Operand.tmp 45) (Operand.tmp 43), type := 0, pos := "l06_run.go:150", after := #[{ on := 19, ground := Ground.data }, { on := 17, ground := Ground.data }, { on := 17, ground := Ground.chain }, { on := 0, ground := Ground.phase }, { on := 1, ground := Ground.phase }, { on := 2, ground := Ground.phase }, { on := 3, ground := Ground.phase }, { on := 4, ground := Ground.phase }, { on := 5, ground := Ground.phase }, { on := 6, ground := Ground.phase }, { on := 7, ground := Ground.phase }, { on := 8, ground := Ground.phase }, { on := 9, ground := Ground.phase }, { on := 10, ground := Ground.phase }, { on := 11, ground := Ground.phase }, { on := 12, ground := Ground.phase }, { on := 13, ground := Ground.phase }, { on := 14, ground := Ground.phase }, { on := 15, ground := Ground.phase }, { on := 16, ground := Ground.phase }, { on := 17, ground := Ground.phase }], guard := none }) rfl rfl (by kernel_rfl) (fun K hK => ?_)
    go_simp
    refine hK _ _ ⟨fun h => absurd rfl h, wpAnyM_done (by kernel_rfl) ?_ _⟩
    clear hK
    simp only [Exit.inBlock, Exit.then]
    go_at_K
    go_wp2
    go_ret
    refine ⟨rfl, ⟨rv, tv, pv, ?_⟩, ?_⟩
    · rw [Hy.out, Hx.out]
      exact HH4.out.setVal hd _
    · exact HF4.out.trans (FrR.setR R S (14 + d) (.int .i64 (wordV op y x)) w4)

set_option maxRecDepth 100000 in
set_option maxHeartbeats 4000000 in
theorem step_out (a : Nat) (ha : a < 80) (hl : s.told.length ≤ 5000) (w : World) (h : RunIs W0 w R S bv vals s fr pl) {k : Nat} (hf : s.fuel = k + 1) (hk : k ≤ 5000) :
    Calls Try.prog 49 #[.pointer (some ⟨R, 0, none⟩), .agg #[.int .i64 23, .int .i64 0, .int .i64 (a : Int), .int .i64 0, .int .i64 0]] w fun e w' => e = .returned (.int .i64 0) ∧ RunTo W0 R S bv vals fr pl w { s with fuel := k, told := s.told ++ [s.vals a] } w' := by
  have hp : placeV 23 0 (a : Int) 0 0 = .iface 139 (.agg #[.int .i64 (a : Int)]) := by simp [placeV]
  have HF0 : Hid (s.fuel = k + 1) := hf
  have HH0 : Hid (RunIs W0 w R S bv vals s fr pl) := h
  have hRB : w.heap.size ≠ R := by have := h.lt.1; omega
  have hSB : w.heap.size ≠ S := by have := h.lt.2; omega
  have ha2 : (a : Int) < 80 := by omega
  clear h hf
  go_enter Try.func49, Try.ntmps49
  go_wp2_with fail
  refine (burn_one (W0 := W0) (S := S) (bv := bv) (vals := vals) (s := s) (fr := fr) (pl := pl) _ (HH0.out.later (Bel.alloc w _)) HF0.out hk).mono ?_
  rintro e w1 ⟨rfl, h1, f1⟩
  have bx := f1.box (B := w.heap.size) (World.alloc_heap_new w _) hRB hSB (by decide)
  have HF1 : Hid (FrR R S w w1) := (FrR.ofBelow (Bel.alloc w _)).trans f1
  have HH1 : Hid (RunIs W0 w1 R S bv vals { s with fuel := k } fr pl) := h1
  have e0 : w1.cell? ⟨w.heap.size, 0, none⟩ = some (.int .i64 23) := by simp [World.cell?, bx]
  have e1 : w1.cell? ⟨w.heap.size, 1, none⟩ = some (.int .i64 0) := by simp [World.cell?, bx]
  have e2 : w1.cell? ⟨w.heap.size, 2, none⟩ = some (.int .i64 (a : Int)) := by simp [World.cell?, bx]
  have e3 : w1.cell? ⟨w.heap.size, 3, none⟩ = some (.int .i64 0) := by simp [World.cell?, bx]
  have e4 : w1.cell? ⟨w.heap.size, 4, none⟩ = some (.int .i64 0) := by simp [World.cell?, bx]
  clear h1 f1 bx
  go_wp2_with fail
  refine (placeOf_any 23 0 (a : Int) 0 0 w1).mono ?_
  rintro e w2 ⟨rfl, b2⟩
  rw [hp]
  have HF2 : Hid (FrR R S w w2) := HF1.out.trans (FrR.ofBelow b2)
  have HH2 : Hid (RunIs W0 w2 R S bv vals { s with fuel := k } fr pl) := HH1.out.later b2
  clear b2 e0 e1 e2 e3 e4
  have nword := wordPlace_no
  have nconst := constPlace_no
  have nload := loadPlace_no
  have nstore := storePlace_no
  have yout := outPlace_yes
  go_wp2_with fail
  have h := HH2.out.later (Bel.alloc w2 (.cells #[.int .i64 (a : Int)] 139))
  have x0 : (w2.alloc (.cells #[.int .i64 (a : Int)] 139)).cell? ⟨w2.heap.size, 0, none⟩ = some (.int .i64 (a : Int)) := by simp only [World.cell?]; rw [World.alloc_heap_new]; rfl
  have HF : Hid (FrR R S w (w2.alloc (.cells #[.int .i64 (a : Int)] 139))) := HF2.out.trans (FrR.ofBelow (Bel.alloc _ _))
  have hRX : R ≠ w2.heap.size := by have := HH2.out.lt.1; omega
  have hSX : w2.heap.size ≠ S := by have := HH2.out.lt.2; omega
  have HBX : Hid ((w2.alloc (.cells #[.int .i64 (a : Int)] 139)).heap[w2.heap.size]? = some (.cells #[.int .i64 (a : Int)] 139 (0, 0))) := World.alloc_heap_new w2 _
  generalize w2.alloc (.cells #[.int .i64 (a : Int)] 139) = w3 at x0 h HF HBX ⊢
  generalize w2.heap.size = B at x0 hRX hSX HBX ⊢
  obtain ⟨rv, tv, pv, h⟩ := h
  have HH : Hid (RunAt W0 w3 R S bv vals { s with fuel := k } fr pl rv tv pv) := h
  have ca := h.cells.cv a ha
  obtain ⟨y, Hy⟩ : ∃ y, Hid (s.vals a = y) := ⟨_, rfl⟩
  simp only [Hy.out] at ca
  clear h
  go_region_held3 (fun w' => w'.cell? ⟨B, 0, none⟩ = some (.int .i64 (a : Int)) ∧ w'.cell? ⟨R, 14 + a, none⟩ = some (.int .i64 y)) (first | exact ⟨z0, z1⟩ | go_keep)
    (first | (go_at_call 78; refine (tell_any (W0 := W0) (S := S) (bv := bv) (vals := vals) (s := { s with fuel := k }) (fr := fr) (pl := pl) y _ ⟨rv, tv, pv, HH.out.drew⟩ hl).mono ?_; rintro e w4 ⟨⟨v4, rfl⟩, h4, f4⟩; have z0 : w4.cell? ⟨B, 0, none⟩ = some (.int .i64 (a : Int)) := (by have hb := f4.box (B := B) HBX.out (fun e => hRX e.symm) hSX (by decide); simp [World.cell?, hb]); have HF4 : Hid (FrR R S w w4) := HF.out.trans ((FrR.drew R S w3).trans f4); have HH4 : Hid (RunIs W0 w4 R S bv vals { s with fuel := k, told := s.told ++ [y] } fr pl) := h4; have z1 : w4.cell? ⟨R, 14 + a, none⟩ = some (.int .i64 y) := (by obtain ⟨r4, t4, p4, h5⟩ := h4; have := h5.cells.cv a ha; rw [← Hy.out]; exact this); clear h4 f4))
  simp only [Exit.inBlock, Exit.then]
  go_at_K
  go_wp2
  go_ret
  rw [Hy.out]
  exact ⟨rfl, HH4.out, HF4.out⟩

set_option maxRecDepth 100000 in
set_option maxHeartbeats 4000000 in
theorem step_read (d : Nat) (hd : d < 80) (w : World) (h : RunIs W0 w R S bv vals s fr pl) {k : Nat} (hf : s.fuel = k + 1) (hk : k ≤ 5000) :
    Calls Try.prog 49 #[.pointer (some ⟨R, 0, none⟩), .agg #[.int .i64 24, .int .i64 (d : Int), .int .i64 0, .int .i64 0, .int .i64 0]] w fun e w' => e = .returned (.int .i64 0) ∧ RunTo W0 R S bv vals fr pl w { s with fuel := k, vals := updN s.vals d (s.reads.headD 0), reads := s.reads.tail } w' := by
  have hp : placeV 24 (d : Int) 0 0 0 = .iface 142 (.agg #[.int .i64 (d : Int)]) := by simp [placeV]
  have HF0 : Hid (s.fuel = k + 1) := hf
  have HH0 : Hid (RunIs W0 w R S bv vals s fr pl) := h
  have hRB : w.heap.size ≠ R := by have := h.lt.1; omega
  have hSB : w.heap.size ≠ S := by have := h.lt.2; omega
  have hd2 : (d : Int) < 80 := by omega
  clear h hf
  go_enter Try.func49, Try.ntmps49
  go_wp2_with fail
  refine (burn_one (W0 := W0) (S := S) (bv := bv) (vals := vals) (s := s) (fr := fr) (pl := pl) _ (HH0.out.later (Bel.alloc w _)) HF0.out hk).mono ?_
  rintro e w1 ⟨rfl, h1, f1⟩
  have bx := f1.box (B := w.heap.size) (World.alloc_heap_new w _) hRB hSB (by decide)
  have HF1 : Hid (FrR R S w w1) := (FrR.ofBelow (Bel.alloc w _)).trans f1
  have HH1 : Hid (RunIs W0 w1 R S bv vals { s with fuel := k } fr pl) := h1
  have e0 : w1.cell? ⟨w.heap.size, 0, none⟩ = some (.int .i64 24) := by simp [World.cell?, bx]
  have e1 : w1.cell? ⟨w.heap.size, 1, none⟩ = some (.int .i64 (d : Int)) := by simp [World.cell?, bx]
  have e2 : w1.cell? ⟨w.heap.size, 2, none⟩ = some (.int .i64 0) := by simp [World.cell?, bx]
  have e3 : w1.cell? ⟨w.heap.size, 3, none⟩ = some (.int .i64 0) := by simp [World.cell?, bx]
  have e4 : w1.cell? ⟨w.heap.size, 4, none⟩ = some (.int .i64 0) := by simp [World.cell?, bx]
  clear h1 f1 bx
  go_wp2_with fail
  refine (placeOf_any 24 (d : Int) 0 0 0 w1).mono ?_
  rintro e w2 ⟨rfl, b2⟩
  rw [hp]
  have HF2 : Hid (FrR R S w w2) := HF1.out.trans (FrR.ofBelow b2)
  have HH2 : Hid (RunIs W0 w2 R S bv vals { s with fuel := k } fr pl) := HH1.out.later b2
  clear b2 e0 e1 e2 e3 e4
  have nword := wordPlace_no
  have nconst := constPlace_no
  have nload := loadPlace_no
  have nstore := storePlace_no
  have nout := outPlace_no
  have yread := readPlace_yes
  go_wp2_with fail
  have h := HH2.out.later (Bel.alloc w2 (.cells #[.int .i64 (d : Int)] 142))
  have x0 : (w2.alloc (.cells #[.int .i64 (d : Int)] 142)).cell? ⟨w2.heap.size, 0, none⟩ = some (.int .i64 (d : Int)) := by simp only [World.cell?]; rw [World.alloc_heap_new]; rfl
  have HF : Hid (FrR R S w (w2.alloc (.cells #[.int .i64 (d : Int)] 142))) := HF2.out.trans (FrR.ofBelow (Bel.alloc _ _))
  have hRX : R ≠ w2.heap.size := by have := HH2.out.lt.1; omega
  have hSX : w2.heap.size ≠ S := by have := HH2.out.lt.2; omega
  have HBX : Hid ((w2.alloc (.cells #[.int .i64 (d : Int)] 142)).heap[w2.heap.size]? = some (.cells #[.int .i64 (d : Int)] 142 (0, 0))) := World.alloc_heap_new w2 _
  generalize w2.alloc (.cells #[.int .i64 (d : Int)] 142) = w3 at x0 h HF HBX ⊢
  generalize w2.heap.size = B at x0 hRX hSX HBX ⊢
  obtain ⟨rv, tv, pv, h⟩ := h
  have HH : Hid (RunAt W0 w3 R S bv vals { s with fuel := k } fr pl rv tv pv) := h
  clear h
  obtain ⟨y, Hy⟩ : ∃ y, Hid (s.reads.headD 0 = y) := ⟨_, rfl⟩
  go_region_held3 (fun w' => w'.cell? ⟨B, 0, none⟩ = some (.int .i64 (d : Int))) (first | exact far_block z0 hRX | exact z0 | go_keep)
    (first | (go_at_call 79; refine (read_any (W0 := W0) (S := S) (bv := bv) (vals := vals) (s := { s with fuel := k }) (fr := fr) (pl := pl) _ ⟨rv, tv, pv, HH.out.drew⟩).mono ?_; rintro e w4 ⟨he, h4, f4⟩; rw [show ({ s with fuel := k } : RunS).reads.headD 0 = y from Hy.out] at he; subst he; have z0 : w4.cell? ⟨B, 0, none⟩ = some (.int .i64 (d : Int)) := (by have hb := f4.box (B := B) HBX.out (fun e => hRX e.symm) hSX (by decide); simp [World.cell?, hb]); have HF4 : Hid (FrR R S w w4) := HF.out.trans ((FrR.drew R S w3).trans f4); obtain ⟨rv4, tv4, pv4, h4⟩ := h4; have cd4 := h4.cells.cv d hd; have fz4 := h4.frozen (14 + d); have HH4 : Hid (RunAt W0 w4 R S bv vals { s with fuel := k, reads := s.reads.tail } fr pl rv4 tv4 pv4) := h4; clear h4 f4))
  simp only [Exit.inBlock, Exit.then]
  go_at_K
  go_wp2
  go_ret
  refine ⟨rfl, ⟨rv4, tv4, pv4, ?_⟩, ?_⟩
  · rw [Hy.out]
    first | exact (HH4.out.setVal hd _).drew | exact HH4.out.setVal hd _
  · refine HF4.out.trans ((FrR.setR R S (14 + d) (.int .i64 y) w4).trans ?_)
    first | exact FrR.refl _ _ _ | exact FrR.drew _ _ _ | exact (FrR.drew _ _ _).trans (FrR.drew _ _ _)

set_option maxRecDepth 100000 in
set_option maxHeartbeats 4000000 in
theorem step_load (d a c : Nat) (hd : d < 80) (ha : a < 80) (hc : c < 8) (hv : s.vals a = (c : Int)) (w : World) (h : RunIs W0 w R S bv vals s fr pl) {k : Nat} (hf : s.fuel = k + 1) (hk : k ≤ 5000) :
    Calls Try.prog 49 #[.pointer (some ⟨R, 0, none⟩), .agg #[.int .i64 21, .int .i64 (d : Int), .int .i64 (a : Int), .int .i64 0, .int .i64 0]] w fun e w' => e = .returned (.int .i64 0) ∧ RunTo W0 R S bv vals fr pl w { s with fuel := k, vals := updN s.vals d (s.cells c) } w' := by
  have hp : placeV 21 (d : Int) (a : Int) 0 0 = .iface 133 (.agg #[.int .i64 (d : Int), .int .i64 (a : Int)]) := by simp [placeV]
  have HF0 : Hid (s.fuel = k + 1) := hf
  have HH0 : Hid (RunIs W0 w R S bv vals s fr pl) := h
  have hRB : w.heap.size ≠ R := by have := h.lt.1; omega
  have hSB : w.heap.size ≠ S := by have := h.lt.2; omega
  clear h hf
  go_enter Try.func49, Try.ntmps49
  go_wp2_with fail
  refine (burn_one (W0 := W0) (S := S) (bv := bv) (vals := vals) (s := s) (fr := fr) (pl := pl) _ (HH0.out.later (Bel.alloc w _)) HF0.out hk).mono ?_
  rintro e w1 ⟨rfl, h1, f1⟩
  have bx := f1.box (B := w.heap.size) (World.alloc_heap_new w _) hRB hSB (by decide)
  have HF1 : Hid (FrR R S w w1) := (FrR.ofBelow (Bel.alloc w _)).trans f1
  have HH1 : Hid (RunIs W0 w1 R S bv vals { s with fuel := k } fr pl) := h1
  have e0 : w1.cell? ⟨w.heap.size, 0, none⟩ = some (.int .i64 21) := by simp [World.cell?, bx]
  have e1 : w1.cell? ⟨w.heap.size, 1, none⟩ = some (.int .i64 (d : Int)) := by simp [World.cell?, bx]
  have e2 : w1.cell? ⟨w.heap.size, 2, none⟩ = some (.int .i64 (a : Int)) := by simp [World.cell?, bx]
  have e3 : w1.cell? ⟨w.heap.size, 3, none⟩ = some (.int .i64 0) := by simp [World.cell?, bx]
  have e4 : w1.cell? ⟨w.heap.size, 4, none⟩ = some (.int .i64 0) := by simp [World.cell?, bx]
  clear h1 f1 bx
  go_wp2_with fail
  refine (placeOf_any 21 (d : Int) (a : Int) 0 0 w1).mono ?_
  rintro e w2 ⟨rfl, b2⟩
  rw [hp]
  have HF2 : Hid (FrR R S w w2) := HF1.out.trans (FrR.ofBelow b2)
  have HH2 : Hid (RunIs W0 w2 R S bv vals { s with fuel := k } fr pl) := HH1.out.later b2
  clear b2 e0 e1 e2 e3 e4
  have nword := wordPlace_no
  have nconst := constPlace_no
  have yload := loadPlace_yes
  go_wp2_with fail
  refine (load_yes (W0 := W0) (S := S) (bv := bv) (vals := vals) (s := { s with fuel := k }) (fr := fr) (pl := pl) d a c hd ha hc hv _ (HH2.out.later (Bel.alloc w2 _))).mono ?_
  rintro e w4 ⟨rfl, h4, f4⟩
  have HF4 : Hid (FrR R S w w4) := HF2.out.trans ((FrR.ofBelow (Bel.alloc _ _)).trans f4)
  have HH4 : Hid (RunIs W0 w4 R S bv vals { s with fuel := k, vals := updN s.vals d (s.cells c) } fr pl) := h4
  clear h4 f4
  go_wp2
  go_ret
  exact ⟨rfl, HH4.out, HF4.out⟩

set_option maxRecDepth 100000 in
set_option maxHeartbeats 4000000 in
theorem step_loadNo (d a : Nat) (ha : a < 80) (hc : ¬ cellOk (s.vals a)) (w : World) (h : RunIs W0 w R S bv vals s fr pl) {k : Nat} (hf : s.fuel = k + 1) (hk : k ≤ 5000) :
    Calls Try.prog 49 #[.pointer (some ⟨R, 0, none⟩), .agg #[.int .i64 21, .int .i64 (d : Int), .int .i64 (a : Int), .int .i64 0, .int .i64 0]] w fun e w' => e = .returned (.int .i64 2) ∧ RunTo W0 R S bv vals fr pl w { s with fuel := k } w' := by
  have hp : placeV 21 (d : Int) (a : Int) 0 0 = .iface 133 (.agg #[.int .i64 (d : Int), .int .i64 (a : Int)]) := by simp [placeV]
  have HF0 : Hid (s.fuel = k + 1) := hf
  have HH0 : Hid (RunIs W0 w R S bv vals s fr pl) := h
  have hRB : w.heap.size ≠ R := by have := h.lt.1; omega
  have hSB : w.heap.size ≠ S := by have := h.lt.2; omega
  clear h hf
  go_enter Try.func49, Try.ntmps49
  go_wp2_with fail
  refine (burn_one (W0 := W0) (S := S) (bv := bv) (vals := vals) (s := s) (fr := fr) (pl := pl) _ (HH0.out.later (Bel.alloc w _)) HF0.out hk).mono ?_
  rintro e w1 ⟨rfl, h1, f1⟩
  have bx := f1.box (B := w.heap.size) (World.alloc_heap_new w _) hRB hSB (by decide)
  have HF1 : Hid (FrR R S w w1) := (FrR.ofBelow (Bel.alloc w _)).trans f1
  have HH1 : Hid (RunIs W0 w1 R S bv vals { s with fuel := k } fr pl) := h1
  have e0 : w1.cell? ⟨w.heap.size, 0, none⟩ = some (.int .i64 21) := by simp [World.cell?, bx]
  have e1 : w1.cell? ⟨w.heap.size, 1, none⟩ = some (.int .i64 (d : Int)) := by simp [World.cell?, bx]
  have e2 : w1.cell? ⟨w.heap.size, 2, none⟩ = some (.int .i64 (a : Int)) := by simp [World.cell?, bx]
  have e3 : w1.cell? ⟨w.heap.size, 3, none⟩ = some (.int .i64 0) := by simp [World.cell?, bx]
  have e4 : w1.cell? ⟨w.heap.size, 4, none⟩ = some (.int .i64 0) := by simp [World.cell?, bx]
  clear h1 f1 bx
  go_wp2_with fail
  refine (placeOf_any 21 (d : Int) (a : Int) 0 0 w1).mono ?_
  rintro e w2 ⟨rfl, b2⟩
  rw [hp]
  have HF2 : Hid (FrR R S w w2) := HF1.out.trans (FrR.ofBelow b2)
  have HH2 : Hid (RunIs W0 w2 R S bv vals { s with fuel := k } fr pl) := HH1.out.later b2
  clear b2 e0 e1 e2 e3 e4
  have nword := wordPlace_no
  have nconst := constPlace_no
  have yload := loadPlace_yes
  go_wp2_with fail
  refine (load_no (W0 := W0) (S := S) (bv := bv) (vals := vals) (s := { s with fuel := k }) (fr := fr) (pl := pl) d a ha hc _ (HH2.out.later (Bel.alloc w2 _))).mono ?_
  rintro e w4 ⟨rfl, h4, f4⟩
  have HF4 : Hid (FrR R S w w4) := HF2.out.trans ((FrR.ofBelow (Bel.alloc _ _)).trans f4)
  have HH4 : Hid (RunIs W0 w4 R S bv vals { s with fuel := k } fr pl) := h4
  clear h4 f4
  go_wp2
  go_ret
  exact ⟨rfl, HH4.out, HF4.out⟩

set_option maxRecDepth 100000 in
set_option maxHeartbeats 4000000 in
theorem step_store (a b c : Nat) (ha : a < 80) (hb : b < 80) (hc : c < 8) (hv : s.vals a = (c : Int)) (w : World) (h : RunIs W0 w R S bv vals s fr pl) {k : Nat} (hf : s.fuel = k + 1) (hk : k ≤ 5000) :
    Calls Try.prog 49 #[.pointer (some ⟨R, 0, none⟩), .agg #[.int .i64 22, .int .i64 0, .int .i64 (a : Int), .int .i64 (b : Int), .int .i64 0]] w fun e w' => e = .returned (.int .i64 0) ∧ RunTo W0 R S bv vals fr pl w { s with fuel := k, cells := updN s.cells c (s.vals b) } w' := by
  have hp : placeV 22 0 (a : Int) (b : Int) 0 = .iface 136 (.agg #[.int .i64 (a : Int), .int .i64 (b : Int)]) := by simp [placeV]
  have HF0 : Hid (s.fuel = k + 1) := hf
  have HH0 : Hid (RunIs W0 w R S bv vals s fr pl) := h
  have hRB : w.heap.size ≠ R := by have := h.lt.1; omega
  have hSB : w.heap.size ≠ S := by have := h.lt.2; omega
  clear h hf
  go_enter Try.func49, Try.ntmps49
  go_wp2_with fail
  refine (burn_one (W0 := W0) (S := S) (bv := bv) (vals := vals) (s := s) (fr := fr) (pl := pl) _ (HH0.out.later (Bel.alloc w _)) HF0.out hk).mono ?_
  rintro e w1 ⟨rfl, h1, f1⟩
  have bx := f1.box (B := w.heap.size) (World.alloc_heap_new w _) hRB hSB (by decide)
  have HF1 : Hid (FrR R S w w1) := (FrR.ofBelow (Bel.alloc w _)).trans f1
  have HH1 : Hid (RunIs W0 w1 R S bv vals { s with fuel := k } fr pl) := h1
  have e0 : w1.cell? ⟨w.heap.size, 0, none⟩ = some (.int .i64 22) := by simp [World.cell?, bx]
  have e1 : w1.cell? ⟨w.heap.size, 1, none⟩ = some (.int .i64 0) := by simp [World.cell?, bx]
  have e2 : w1.cell? ⟨w.heap.size, 2, none⟩ = some (.int .i64 (a : Int)) := by simp [World.cell?, bx]
  have e3 : w1.cell? ⟨w.heap.size, 3, none⟩ = some (.int .i64 (b : Int)) := by simp [World.cell?, bx]
  have e4 : w1.cell? ⟨w.heap.size, 4, none⟩ = some (.int .i64 0) := by simp [World.cell?, bx]
  clear h1 f1 bx
  go_wp2_with fail
  refine (placeOf_any 22 0 (a : Int) (b : Int) 0 w1).mono ?_
  rintro e w2 ⟨rfl, b2⟩
  rw [hp]
  have HF2 : Hid (FrR R S w w2) := HF1.out.trans (FrR.ofBelow b2)
  have HH2 : Hid (RunIs W0 w2 R S bv vals { s with fuel := k } fr pl) := HH1.out.later b2
  clear b2 e0 e1 e2 e3 e4
  have nword := wordPlace_no
  have nconst := constPlace_no
  have nload := loadPlace_no
  have ystore := storePlace_yes
  go_wp2_with fail
  refine (store_yes (W0 := W0) (S := S) (bv := bv) (vals := vals) (s := { s with fuel := k }) (fr := fr) (pl := pl) a b c ha hb hc hv _ (HH2.out.later (Bel.alloc w2 _))).mono ?_
  rintro e w4 ⟨rfl, h4, f4⟩
  have HF4 : Hid (FrR R S w w4) := HF2.out.trans ((FrR.ofBelow (Bel.alloc _ _)).trans f4)
  have HH4 : Hid (RunIs W0 w4 R S bv vals { s with fuel := k, cells := updN s.cells c (s.vals b) } fr pl) := h4
  clear h4 f4
  go_wp2
  go_ret
  exact ⟨rfl, HH4.out, HF4.out⟩

set_option maxRecDepth 100000 in
set_option maxHeartbeats 4000000 in
theorem step_storeNo (a b : Nat) (ha : a < 80) (hc : ¬ cellOk (s.vals a)) (w : World) (h : RunIs W0 w R S bv vals s fr pl) {k : Nat} (hf : s.fuel = k + 1) (hk : k ≤ 5000) :
    Calls Try.prog 49 #[.pointer (some ⟨R, 0, none⟩), .agg #[.int .i64 22, .int .i64 0, .int .i64 (a : Int), .int .i64 (b : Int), .int .i64 0]] w fun e w' => e = .returned (.int .i64 2) ∧ RunTo W0 R S bv vals fr pl w { s with fuel := k } w' := by
  have hp : placeV 22 0 (a : Int) (b : Int) 0 = .iface 136 (.agg #[.int .i64 (a : Int), .int .i64 (b : Int)]) := by simp [placeV]
  have HF0 : Hid (s.fuel = k + 1) := hf
  have HH0 : Hid (RunIs W0 w R S bv vals s fr pl) := h
  have hRB : w.heap.size ≠ R := by have := h.lt.1; omega
  have hSB : w.heap.size ≠ S := by have := h.lt.2; omega
  clear h hf
  go_enter Try.func49, Try.ntmps49
  go_wp2_with fail
  refine (burn_one (W0 := W0) (S := S) (bv := bv) (vals := vals) (s := s) (fr := fr) (pl := pl) _ (HH0.out.later (Bel.alloc w _)) HF0.out hk).mono ?_
  rintro e w1 ⟨rfl, h1, f1⟩
  have bx := f1.box (B := w.heap.size) (World.alloc_heap_new w _) hRB hSB (by decide)
  have HF1 : Hid (FrR R S w w1) := (FrR.ofBelow (Bel.alloc w _)).trans f1
  have HH1 : Hid (RunIs W0 w1 R S bv vals { s with fuel := k } fr pl) := h1
  have e0 : w1.cell? ⟨w.heap.size, 0, none⟩ = some (.int .i64 22) := by simp [World.cell?, bx]
  have e1 : w1.cell? ⟨w.heap.size, 1, none⟩ = some (.int .i64 0) := by simp [World.cell?, bx]
  have e2 : w1.cell? ⟨w.heap.size, 2, none⟩ = some (.int .i64 (a : Int)) := by simp [World.cell?, bx]
  have e3 : w1.cell? ⟨w.heap.size, 3, none⟩ = some (.int .i64 (b : Int)) := by simp [World.cell?, bx]
  have e4 : w1.cell? ⟨w.heap.size, 4, none⟩ = some (.int .i64 0) := by simp [World.cell?, bx]
  clear h1 f1 bx
  go_wp2_with fail
  refine (placeOf_any 22 0 (a : Int) (b : Int) 0 w1).mono ?_
  rintro e w2 ⟨rfl, b2⟩
  rw [hp]
  have HF2 : Hid (FrR R S w w2) := HF1.out.trans (FrR.ofBelow b2)
  have HH2 : Hid (RunIs W0 w2 R S bv vals { s with fuel := k } fr pl) := HH1.out.later b2
  clear b2 e0 e1 e2 e3 e4
  have nword := wordPlace_no
  have nconst := constPlace_no
  have nload := loadPlace_no
  have ystore := storePlace_yes
  go_wp2_with fail
  refine (store_no (W0 := W0) (S := S) (bv := bv) (vals := vals) (s := { s with fuel := k }) (fr := fr) (pl := pl) a b ha hc _ (HH2.out.later (Bel.alloc w2 _))).mono ?_
  rintro e w4 ⟨rfl, h4, f4⟩
  have HF4 : Hid (FrR R S w w4) := HF2.out.trans ((FrR.ofBelow (Bel.alloc _ _)).trans f4)
  have HH4 : Hid (RunIs W0 w4 R S bv vals { s with fuel := k } fr pl) := h4
  clear h4 f4
  go_wp2
  go_ret
  exact ⟨rfl, HH4.out, HF4.out⟩

/-- A place of a list, with its fuel. -/
def stepDo (x : InsD) (s : RunS) : Int × RunS := if s.fuel = 0 then (1, s) else insDo wordV x { s with fuel := s.fuel - 1 }
theorem val_nat {vals v : Int} (h : valIn vals v = true) (hv : vals ≤ 80) : ∃ n : Nat, v = (n : Int) ∧ n < 80 := by
  simp [valIn] at h
  exact ⟨v.toNat, by omega, by omega⟩
theorem cell_nat {v : Int} (h : cellOk v) : ∃ n : Nat, v = (n : Int) ∧ n < 8 := ⟨v.toNat, by unfold cellOk at h; omega, by unfold cellOk at h; omega⟩
theorem step_any (x : InsD) (hv : vals ≤ 80) (hx : placeOkV vals x = true) (w : World) (h : RunIs W0 w R S bv vals s fr pl) (hk : s.fuel ≤ 5000) (hl : s.told.length ≤ 5000) :
    Calls Try.prog 49 #[.pointer (some ⟨R, 0, none⟩), .agg #[.int .i64 x.op, .int .i64 x.d, .int .i64 x.a, .int .i64 x.b, .int .i64 x.n]] w fun e w' => e = .returned (.int .i64 (stepDo x s).1) ∧ RunTo W0 R S bv vals fr pl w (stepDo x s).2 w' := by
  obtain ⟨op, d, a, b, n⟩ := x
  dsimp only
  unfold placeOkV at hx
  dsimp only at hx
  by_cases hf : s.fuel = 0
  · have e : stepDo ⟨op, d, a, b, n⟩ s = (1, s) := if_pos hf
    rw [e]
    exact step_fuel op d a b n w h hf
  · obtain ⟨k, hk2⟩ : ∃ k, s.fuel = k + 1 := ⟨s.fuel - 1, by omega⟩
    have e : stepDo ⟨op, d, a, b, n⟩ s = insDo wordV ⟨op, d, a, b, n⟩ { s with fuel := k } := by
      unfold stepDo
      rw [if_neg hf]
      have : s.fuel - 1 = k := by omega
      rw [this]
    rw [e]
    clear e
    rcases op_cases op with h0 | h0 | h0 | h0 | h0 | h0 | ⟨⟨e0, e1, e2, e3, e4, e5⟩, ⟨hq, hq1⟩ | hq | ⟨hq1, hq⟩⟩
    · subst h0
      rw [insOkV_const] at hx
      simp only [Bool.and_eq_true, beq_iff_eq] at hx
      obtain ⟨⟨hd, rfl⟩, rfl⟩ := hx
      obtain ⟨dn, rfl, hdn⟩ := val_nat hd hv
      have ei : insDo wordV ⟨20, (dn : Int), 0, 0, n⟩ { s with fuel := k } = (0, { s with fuel := k, vals := updN s.vals dn n }) := by simp [insDo, RunS.setV]
      rw [ei]
      exact step_const dn n hdn w h hk2 (by omega)
    · subst h0
      rw [insOkV_load] at hx
      simp only [Bool.and_eq_true, beq_iff_eq] at hx
      obtain ⟨⟨⟨hd, ha⟩, rfl⟩, rfl⟩ := hx
      obtain ⟨dn, rfl, hdn⟩ := val_nat hd hv
      obtain ⟨an, rfl, han⟩ := val_nat ha hv
      by_cases hc : cellOk (s.vals an)
      · obtain ⟨cn, hcn, hc8⟩ := cell_nat hc
        have ei : insDo wordV ⟨21, (dn : Int), (an : Int), 0, 0⟩ { s with fuel := k } = (0, { s with fuel := k, vals := updN s.vals dn (s.cells cn) }) := by
          rw [hcn] at hc
          simp [insDo, RunS.setV, RunS.val, hcn, hc]
        rw [ei]
        exact step_load dn an cn hdn han hc8 hcn w h hk2 (by omega)
      · have ei : insDo wordV ⟨21, (dn : Int), (an : Int), 0, 0⟩ { s with fuel := k } = (2, { s with fuel := k }) := by simp [insDo, RunS.val, hc]
        rw [ei]
        exact step_loadNo dn an han hc w h hk2 (by omega)
    · subst h0
      rw [insOkV_store] at hx
      simp only [Bool.and_eq_true, beq_iff_eq] at hx
      obtain ⟨⟨⟨ha, hb⟩, rfl⟩, rfl⟩ := hx
      obtain ⟨an, rfl, han⟩ := val_nat ha hv
      obtain ⟨bn, rfl, hbn⟩ := val_nat hb hv
      by_cases hc : cellOk (s.vals an)
      · obtain ⟨cn, hcn, hc8⟩ := cell_nat hc
        have ei : insDo wordV ⟨22, 0, (an : Int), (bn : Int), 0⟩ { s with fuel := k } = (0, { s with fuel := k, cells := updN s.cells cn (s.vals bn) }) := by
          rw [hcn] at hc
          simp [insDo, RunS.val, hcn, hc]
        rw [ei]
        exact step_store an bn cn han hbn hc8 hcn w h hk2 (by omega)
      · have ei : insDo wordV ⟨22, 0, (an : Int), (bn : Int), 0⟩ { s with fuel := k } = (2, { s with fuel := k }) := by simp [insDo, RunS.val, hc]
        rw [ei]
        exact step_storeNo an bn han hc w h hk2 (by omega)
    · subst h0
      rw [insOkV_out] at hx
      simp only [Bool.and_eq_true, beq_iff_eq] at hx
      obtain ⟨⟨⟨ha, rfl⟩, rfl⟩, rfl⟩ := hx
      obtain ⟨an, rfl, han⟩ := val_nat ha hv
      have ei : insDo wordV ⟨23, 0, (an : Int), 0, 0⟩ { s with fuel := k } = (0, { s with fuel := k, told := s.told ++ [s.vals an] }) := by simp [insDo, RunS.val]
      rw [ei]
      exact step_out an han hl w h hk2 (by omega)
    · subst h0
      rw [insOkV_read] at hx
      simp only [Bool.and_eq_true, beq_iff_eq] at hx
      obtain ⟨⟨⟨hd, rfl⟩, rfl⟩, rfl⟩ := hx
      obtain ⟨dn, rfl, hdn⟩ := val_nat hd hv
      have ei : insDo wordV ⟨24, (dn : Int), 0, 0, 0⟩ { s with fuel := k } = (0, { s with fuel := k, vals := updN s.vals dn (s.reads.headD 0), reads := s.reads.tail }) := by simp [insDo, RunS.setV]
      rw [ei]
      exact step_read dn hdn w h hk2 (by omega)
    · subst h0
      rw [insOkV_copy] at hx
      simp only [Bool.and_eq_true, beq_iff_eq] at hx
      obtain ⟨⟨⟨hd, ha⟩, rfl⟩, rfl⟩ := hx
      obtain ⟨dn, rfl, hdn⟩ := val_nat hd hv
      obtain ⟨an, rfl, han⟩ := val_nat ha hv
      have ei : insDo wordV ⟨25, (dn : Int), (an : Int), 0, 0⟩ { s with fuel := k } = (0, { s with fuel := k, vals := updN s.vals dn (s.vals an) }) := by simp [insDo, RunS.setV, RunS.val]
      rw [ei]
      exact step_copy dn an hdn han w h hk2 (by omega)
    · rw [insOkV_word hq hq1] at hx
      simp only [Bool.and_eq_true, beq_iff_eq] at hx
      obtain ⟨⟨⟨hd, ha⟩, hb⟩, rfl⟩ := hx
      obtain ⟨dn, rfl, hdn⟩ := val_nat hd hv
      obtain ⟨an, rfl, han⟩ := val_nat ha hv
      obtain ⟨bn, rfl, hbn⟩ := val_nat hb hv
      have ei : insDo wordV ⟨op, (dn : Int), (an : Int), (bn : Int), 0⟩ { s with fuel := k } = (0, { s with fuel := k, vals := updN s.vals dn (wordV op (s.vals an) (s.vals bn)) }) := by simp [insDo, RunS.setV, RunS.val, hq, hq1]
      rw [ei]
      exact step_word op dn an bn hdn han hbn e0 e1 e2 e3 e4 e5 hq hq1 w h hk2 (by omega)
    · rw [insOkV_none e0 e1 e2 e3 e4 e5 (by omega)] at hx
      cases hx
    · rw [insOkV_none e0 e1 e2 e3 e4 e5 (by omega)] at hx
      cases hx
end
end Go.Proofs.Ytkpddakmcnknjaa
