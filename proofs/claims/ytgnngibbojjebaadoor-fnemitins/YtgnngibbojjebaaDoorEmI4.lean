/- Code from homes, the program's parts: each kind of place; EmitIns. -/
import Derived.Test.YtgnngibbojjebaaDoorEmI3
namespace Go.Proofs.YtgnngibbojjebaaDoor
open Go.ChangeShapes Go.WideShapes Go.ChangeAt Go.RowKit
set_option linter.unusedVariables false

set_option maxRecDepth 100000 in
set_option maxHeartbeats 4000000 in
theorem em_const (lo E : Nat) (v : Value) (l : List InsD) (d n : Int) (w : World) (he : EmIs lo w E v l) (hlo : lo ≤ w.heap.size) (hn : l.length ≤ 800000) (hd : homeB d = true) :
    Calls Tryd.prog 34 #[.pointer (some ⟨E, 0, none⟩), .iface 86 (.agg #[.int .i64 d, .int .i64 n])] w fun e w' => GivesEm lo E w v (fun _ => True) (l ++ giveL d 1 0 0 n) e w' := by
  obtain ⟨hbx, hto⟩ := BoxE.new he hlo #[.int .i64 d, .int .i64 n] 86
  obtain ⟨w0, hw0⟩ : ∃ W, w.alloc (.cells #[.int .i64 d, .int .i64 n] 86) = W := ⟨_, rfl⟩
  rw [hw0] at hbx hto
  have HBX : Hid (BoxE lo w0 E w.heap.size v l #[.int .i64 d, .int .i64 n] 86) := hbx
  have HTO : Hid (EmTo lo E w v w0 v) := hto
  have p0 : w0.cell? ⟨w.heap.size, 0, none⟩ = some (.int .i64 d) := HBX.out.cell 0
  have p1 : w0.cell? ⟨w.heap.size, 1, none⟩ = some (.int .i64 n) := HBX.out.cell 1
  clear hbx hto he
  have y0 := wordPlace_yes
  have n0 := wordPlace_no
  have y1 := constPlace_yes
  have n1 := constPlace_no
  have y2 := loadPlace_yes
  have n2 := loadPlace_no
  have y3 := storePlace_yes
  have n3 := storePlace_no
  have y4 := outPlace_yes
  have n4 := outPlace_no
  have y5 := readPlace_yes
  have n5 := readPlace_no
  have y6 := copyPlace_yes
  have n6 := copyPlace_no
  go_enter Tryd.func34, Tryd.ntmps34
  go_wp2_with fail
  try rw [hw0]
  clear y0 n0 y1 n1 y2 n2 y3 n3 y4 n4 y5 n5 y6 n6
  clear hw0
  refine (give_any lo E v l d 1 0 0 0 n _ HBX.out.em HBX.out.hi (by omega) hd).mono ?_
  rintro e w9 ⟨x, v9, rfl, _, h1, h2⟩
  have H1 : Hid (EmIs lo w9 E v9 (l ++ giveL d 1 0 0 n)) := h1
  have HT9 : Hid (EmTo lo E w v w9 v9) := HTO.out.trans h2
  clear h1 h2
  go_wp2
  refine ⟨rfl, _, results_none rfl _ _ _, _, v9, rfl, trivial, H1.out, HT9.out⟩

set_option maxRecDepth 100000 in
set_option maxHeartbeats 4000000 in
theorem em_read (lo E : Nat) (v : Value) (l : List InsD) (d : Int) (w : World) (he : EmIs lo w E v l) (hlo : lo ≤ w.heap.size) (hn : l.length ≤ 800000) (hd : homeB d = true) :
    Calls Tryd.prog 34 #[.pointer (some ⟨E, 0, none⟩), .iface 94 (.agg #[.int .i64 d])] w fun e w' => GivesEm lo E w v (fun _ => True) (l ++ giveL d 8 0 0 0) e w' := by
  obtain ⟨hbx, hto⟩ := BoxE.new he hlo #[.int .i64 d] 94
  obtain ⟨w0, hw0⟩ : ∃ W, w.alloc (.cells #[.int .i64 d] 94) = W := ⟨_, rfl⟩
  rw [hw0] at hbx hto
  have HBX : Hid (BoxE lo w0 E w.heap.size v l #[.int .i64 d] 94) := hbx
  have HTO : Hid (EmTo lo E w v w0 v) := hto
  have p0 : w0.cell? ⟨w.heap.size, 0, none⟩ = some (.int .i64 d) := HBX.out.cell 0
  clear hbx hto he
  have y0 := wordPlace_yes
  have n0 := wordPlace_no
  have y1 := constPlace_yes
  have n1 := constPlace_no
  have y2 := loadPlace_yes
  have n2 := loadPlace_no
  have y3 := storePlace_yes
  have n3 := storePlace_no
  have y4 := outPlace_yes
  have n4 := outPlace_no
  have y5 := readPlace_yes
  have n5 := readPlace_no
  have y6 := copyPlace_yes
  have n6 := copyPlace_no
  go_enter Tryd.func34, Tryd.ntmps34
  go_wp2_with fail
  try rw [hw0]
  clear y0 n0 y1 n1 y2 n2 y3 n3 y4 n4 y5 n5 y6 n6
  clear hw0
  refine (give_any lo E v l d 8 0 0 0 0 _ HBX.out.em HBX.out.hi (by omega) hd).mono ?_
  rintro e w9 ⟨x, v9, rfl, _, h1, h2⟩
  have H1 : Hid (EmIs lo w9 E v9 (l ++ giveL d 8 0 0 0)) := h1
  have HT9 : Hid (EmTo lo E w v w9 v9) := HTO.out.trans h2
  clear h1 h2
  go_wp2
  refine ⟨rfl, _, results_none rfl _ _ _, _, v9, rfl, trivial, H1.out, HT9.out⟩

set_option maxRecDepth 100000 in
set_option maxHeartbeats 4000000 in
theorem em_copy (lo E : Nat) (v : Value) (l : List InsD) (d a : Int) (w : World) (he : EmIs lo w E v l) (hlo : lo ≤ w.heap.size) (hn : l.length ≤ 800000) (hd : homeB d = true) (ha : homeB a = true) :
    Calls Tryd.prog 34 #[.pointer (some ⟨E, 0, none⟩), .iface 95 (.agg #[.int .i64 d, .int .i64 a])] w fun e w' => GivesEm lo E w v (fun _ => True) (l ++ copyL d a) e w' := by
  obtain ⟨hbx, hto⟩ := BoxE.new he hlo #[.int .i64 d, .int .i64 a] 95
  obtain ⟨w0, hw0⟩ : ∃ W, w.alloc (.cells #[.int .i64 d, .int .i64 a] 95) = W := ⟨_, rfl⟩
  rw [hw0] at hbx hto
  have HBX : Hid (BoxE lo w0 E w.heap.size v l #[.int .i64 d, .int .i64 a] 95) := hbx
  have HTO : Hid (EmTo lo E w v w0 v) := hto
  have p0 : w0.cell? ⟨w.heap.size, 0, none⟩ = some (.int .i64 d) := HBX.out.cell 0
  have p1 : w0.cell? ⟨w.heap.size, 1, none⟩ = some (.int .i64 a) := HBX.out.cell 1
  clear hbx hto he
  have y0 := wordPlace_yes
  have n0 := wordPlace_no
  have y1 := constPlace_yes
  have n1 := constPlace_no
  have y2 := loadPlace_yes
  have n2 := loadPlace_no
  have y3 := storePlace_yes
  have n3 := storePlace_no
  have y4 := outPlace_yes
  have n4 := outPlace_no
  have y5 := readPlace_yes
  have n5 := readPlace_no
  have y6 := copyPlace_yes
  have n6 := copyPlace_no
  go_enter Tryd.func34, Tryd.ntmps34
  go_wp2_with fail
  try rw [hw0]
  clear y0 n0 y1 n1 y2 n2 y3 n3 y4 n4 y5 n5 y6 n6
  clear hw0
  refine (copy_any lo E v l d a _ HBX.out.em HBX.out.hi (by omega) hd ha).mono ?_
  rintro e w9 ⟨x, v9, rfl, _, h1, h2⟩
  have H1 : Hid (EmIs lo w9 E v9 (l ++ copyL d a)) := h1
  have HT9 : Hid (EmTo lo E w v w9 v9) := HTO.out.trans h2
  clear h1 h2
  go_wp2
  refine ⟨rfl, _, results_none rfl _ _ _, _, v9, rfl, trivial, H1.out, HT9.out⟩

set_option maxRecDepth 100000 in
set_option maxHeartbeats 4000000 in
theorem em_load (lo E : Nat) (v : Value) (l : List InsD) (d a : Int) (w : World) (he : EmIs lo w E v l) (hlo : lo ≤ w.heap.size) (hn : l.length ≤ 800000) (hd : homeB d = true) (ha : homeB a = true) :
    Calls Tryd.prog 34 #[.pointer (some ⟨E, 0, none⟩), .iface 88 (.agg #[.int .i64 d, .int .i64 a])] w fun e w' => GivesEm lo E w v (fun _ => True) (l ++ (takeL a 4 ++ giveL d 5 (takeR a 4) 0 0)) e w' := by
  obtain ⟨hbx, hto⟩ := BoxE.new he hlo #[.int .i64 d, .int .i64 a] 88
  obtain ⟨w0, hw0⟩ : ∃ W, w.alloc (.cells #[.int .i64 d, .int .i64 a] 88) = W := ⟨_, rfl⟩
  rw [hw0] at hbx hto
  have HBX : Hid (BoxE lo w0 E w.heap.size v l #[.int .i64 d, .int .i64 a] 88) := hbx
  have HTO : Hid (EmTo lo E w v w0 v) := hto
  have p0 : w0.cell? ⟨w.heap.size, 0, none⟩ = some (.int .i64 d) := HBX.out.cell 0
  have p1 : w0.cell? ⟨w.heap.size, 1, none⟩ = some (.int .i64 a) := HBX.out.cell 1
  clear hbx hto he
  have y0 := wordPlace_yes
  have n0 := wordPlace_no
  have y1 := constPlace_yes
  have n1 := constPlace_no
  have y2 := loadPlace_yes
  have n2 := loadPlace_no
  have y3 := storePlace_yes
  have n3 := storePlace_no
  have y4 := outPlace_yes
  have n4 := outPlace_no
  have y5 := readPlace_yes
  have n5 := readPlace_no
  have y6 := copyPlace_yes
  have n6 := copyPlace_no
  go_enter Tryd.func34, Tryd.ntmps34
  go_wp2_with fail
  try rw [hw0]
  clear y0 n0 y1 n1 y2 n2 y3 n3 y4 n4 y5 n5 y6 n6
  clear hw0
  obtain ⟨r, HRR⟩ : ∃ r, Hid (takeR a 4 = r) := ⟨_, rfl⟩
  refine (take_any lo E v l a 4 _ HBX.out.em HBX.out.hi (by omega) ha).mono ?_
  rintro e w2 ⟨x, v2, rfl, rfl, h1, h2⟩
  rw [HRR.out]
  have HB2 : Hid (BoxE lo w2 E w.heap.size v2 (l ++ takeL a 4) #[.int .i64 d, .int .i64 a] 88) := HBX.out.to h1 h2
  have HT2 : Hid (EmTo lo E w v w2 v2) := HTO.out.trans h2
  have hl2 : (l ++ takeL a 4).length ≤ 900000 := by have := takeL_len a 4; rw [List.length_append]; omega
  have q0 : w2.cell? ⟨w.heap.size, 0, none⟩ = some (.int .i64 d) := HB2.out.cell 0
  clear h1 h2 p0 p1
  go_wp2_with fail
  refine (give_any lo E v2 (l ++ takeL a 4) d 5 0 r 0 0 _ HB2.out.em HB2.out.hi (by omega) hd).mono ?_
  rintro e w9 ⟨x, v9, rfl, _, h1, h2⟩
  have H1 : Hid (EmIs lo w9 E v9 ((l ++ takeL a 4) ++ giveL d 5 r 0 0)) := h1
  have HT9 : Hid (EmTo lo E w v w9 v9) := HT2.out.trans h2
  clear h1 h2
  go_wp2
  refine ⟨rfl, _, results_none rfl _ _ _, _, v9, rfl, trivial, by rw [HRR.out, ← List.append_assoc]; exact H1.out, HT9.out⟩

set_option maxRecDepth 100000 in
set_option maxHeartbeats 4000000 in
theorem em_out (lo E : Nat) (v : Value) (l : List InsD) (a : Int) (w : World) (he : EmIs lo w E v l) (hlo : lo ≤ w.heap.size) (hn : l.length ≤ 800000) (ha : homeB a = true) :
    Calls Tryd.prog 34 #[.pointer (some ⟨E, 0, none⟩), .iface 92 (.agg #[.int .i64 a])] w fun e w' => GivesEm lo E w v (fun _ => True) (l ++ (takeL a 4 ++ [⟨7, 0, takeR a 4, 0, 0⟩])) e w' := by
  obtain ⟨hbx, hto⟩ := BoxE.new he hlo #[.int .i64 a] 92
  obtain ⟨w0, hw0⟩ : ∃ W, w.alloc (.cells #[.int .i64 a] 92) = W := ⟨_, rfl⟩
  rw [hw0] at hbx hto
  have HBX : Hid (BoxE lo w0 E w.heap.size v l #[.int .i64 a] 92) := hbx
  have HTO : Hid (EmTo lo E w v w0 v) := hto
  have p0 : w0.cell? ⟨w.heap.size, 0, none⟩ = some (.int .i64 a) := HBX.out.cell 0
  clear hbx hto he
  have y0 := wordPlace_yes
  have n0 := wordPlace_no
  have y1 := constPlace_yes
  have n1 := constPlace_no
  have y2 := loadPlace_yes
  have n2 := loadPlace_no
  have y3 := storePlace_yes
  have n3 := storePlace_no
  have y4 := outPlace_yes
  have n4 := outPlace_no
  have y5 := readPlace_yes
  have n5 := readPlace_no
  have y6 := copyPlace_yes
  have n6 := copyPlace_no
  go_enter Tryd.func34, Tryd.ntmps34
  go_wp2_with fail
  try rw [hw0]
  clear y0 n0 y1 n1 y2 n2 y3 n3 y4 n4 y5 n5 y6 n6
  clear hw0
  obtain ⟨r, HRR⟩ : ∃ r, Hid (takeR a 4 = r) := ⟨_, rfl⟩
  refine (take_any lo E v l a 4 _ HBX.out.em HBX.out.hi (by omega) ha).mono ?_
  rintro e w2 ⟨x, v2, rfl, rfl, h1, h2⟩
  rw [HRR.out]
  have HB2 : Hid (BoxE lo w2 E w.heap.size v2 (l ++ takeL a 4) #[.int .i64 a] 92) := HBX.out.to h1 h2
  have HT2 : Hid (EmTo lo E w v w2 v2) := HTO.out.trans h2
  have hl2 : (l ++ takeL a 4).length ≤ 900000 := by have := takeL_len a 4; rw [List.length_append]; omega
  clear h1 h2 p0
  go_wp2_with fail
  refine (put_one lo E v2 (l ++ takeL a 4) 7 0 r 0 0 _ HB2.out.em HB2.out.hi (by omega)).mono ?_
  rintro e w9 ⟨x, v9, rfl, _, h1, h2⟩
  have H1 : Hid (EmIs lo w9 E v9 ((l ++ takeL a 4) ++ [⟨7, 0, r, 0, 0⟩])) := h1
  have HT9 : Hid (EmTo lo E w v w9 v9) := HT2.out.trans h2
  clear h1 h2
  go_wp2
  refine ⟨rfl, _, results_none rfl _ _ _, _, v9, rfl, trivial, by rw [HRR.out, ← List.append_assoc]; exact H1.out, HT9.out⟩

set_option maxRecDepth 100000 in
set_option maxHeartbeats 4000000 in
theorem em_store (lo E : Nat) (v : Value) (l : List InsD) (a b : Int) (w : World) (he : EmIs lo w E v l) (hlo : lo ≤ w.heap.size) (hn : l.length ≤ 800000) (ha : homeB a = true) (hb : homeB b = true) :
    Calls Tryd.prog 34 #[.pointer (some ⟨E, 0, none⟩), .iface 90 (.agg #[.int .i64 a, .int .i64 b])] w fun e w' => GivesEm lo E w v (fun _ => True) (l ++ (takeL a 4 ++ (takeL b 5 ++ [⟨6, 0, takeR a 4, takeR b 5, 0⟩]))) e w' := by
  obtain ⟨hbx, hto⟩ := BoxE.new he hlo #[.int .i64 a, .int .i64 b] 90
  obtain ⟨w0, hw0⟩ : ∃ W, w.alloc (.cells #[.int .i64 a, .int .i64 b] 90) = W := ⟨_, rfl⟩
  rw [hw0] at hbx hto
  have HBX : Hid (BoxE lo w0 E w.heap.size v l #[.int .i64 a, .int .i64 b] 90) := hbx
  have HTO : Hid (EmTo lo E w v w0 v) := hto
  have p0 : w0.cell? ⟨w.heap.size, 0, none⟩ = some (.int .i64 a) := HBX.out.cell 0
  have p1 : w0.cell? ⟨w.heap.size, 1, none⟩ = some (.int .i64 b) := HBX.out.cell 1
  clear hbx hto he
  have y0 := wordPlace_yes
  have n0 := wordPlace_no
  have y1 := constPlace_yes
  have n1 := constPlace_no
  have y2 := loadPlace_yes
  have n2 := loadPlace_no
  have y3 := storePlace_yes
  have n3 := storePlace_no
  have y4 := outPlace_yes
  have n4 := outPlace_no
  have y5 := readPlace_yes
  have n5 := readPlace_no
  have y6 := copyPlace_yes
  have n6 := copyPlace_no
  go_enter Tryd.func34, Tryd.ntmps34
  go_wp2_with fail
  try rw [hw0]
  clear y0 n0 y1 n1 y2 n2 y3 n3 y4 n4 y5 n5 y6 n6
  clear hw0
  obtain ⟨r, HRR⟩ : ∃ r, Hid (takeR a 4 = r) := ⟨_, rfl⟩
  obtain ⟨q, HQQ⟩ : ∃ q, Hid (takeR b 5 = q) := ⟨_, rfl⟩
  have hl2 : (l ++ takeL a 4).length ≤ 900000 := by have := takeL_len a 4; rw [List.length_append]; omega
  have hl3 : ((l ++ takeL a 4) ++ takeL b 5).length ≤ 900000 := by have := takeL_len a 4; have := takeL_len b 5; rw [List.length_append, List.length_append]; omega
  refine wp_region_held_drew (S := fun w' => w'.cell? ⟨w.heap.size, 0, none⟩ = some (.int .i64 a) ∧ w'.cell? ⟨w.heap.size, 1, none⟩ = some (.int .i64 b)) (by kernel_rfl) ⟨p0, p1⟩ (fun hHeld => ?_)
  refine wpAnyH_take (i := 0) (oi := { dst := some 65, op := Go.Op.move (Go.Operand.tmp 0), type := 50, pos := "l15_emit.go:82", after := #[], guard := none }) (v := ?_) rfl (by kernel_rfl) (by kernel_rfl) (by kernel_rfl) (fun _ _ _ h => h) (Or.inl ⟨by rfl, ?_⟩) (by assumption) ?_
  rotate_left
  · intro w hSw
    (try dsimp only at hSw)
    go_simp
    (try with_reducible rfl)
  try simp only [Act.put, List.setIfInBounds_toArray, List.set_cons_zero, List.set_cons_succ]
  refine wpAnyH_take (i := 1) (oi := { dst := some 66, op := Go.Op.fieldAddr 90 (Go.Operand.tmp 10) 0, type := 0, pos := "l15_emit.go:82", after := #[], guard := none }) (v := ?_) rfl (by kernel_rfl) (by kernel_rfl) (by kernel_rfl) (fun _ _ _ h => h) (Or.inl ⟨by rfl, ?_⟩) (by assumption) ?_
  rotate_left
  · intro w hSw
    (try dsimp only at hSw)
    go_simp
    (try with_reducible rfl)
  try simp only [Act.put, List.setIfInBounds_toArray, List.set_cons_zero, List.set_cons_succ]
  refine wpAnyH_take (i := 2) (oi := { dst := some 67, op := Go.Op.load 3 (Go.Operand.tmp 66), type := 3, pos := "l15_emit.go:82", after := #[{ on := 1, ground := Go.Ground.data }], guard := none }) (v := ?_) rfl (by kernel_rfl) (by kernel_rfl) (by kernel_rfl) (fun _ _ _ h => h) (Or.inl ⟨by rfl, ?_⟩) (by assumption) ?_
  rotate_left
  · intro w hSw
    (try dsimp only at hSw)
    go_simp
    (try with_reducible rfl)
  try simp only [Act.put, List.setIfInBounds_toArray, List.set_cons_zero, List.set_cons_succ]
  refine wpAnyH_take (i := 4) (oi := { dst := some 69, op := Go.Op.move (Go.Operand.tmp 0), type := 50, pos := "l15_emit.go:82", after := #[], guard := none }) (v := ?_) rfl (by kernel_rfl) (by kernel_rfl) (by kernel_rfl) (fun _ _ _ h => h) (Or.inl ⟨by rfl, ?_⟩) (by assumption) ?_
  rotate_left
  · intro w hSw
    (try dsimp only at hSw)
    go_simp
    (try with_reducible rfl)
  try simp only [Act.put, List.setIfInBounds_toArray, List.set_cons_zero, List.set_cons_succ]
  refine wpAnyH_take (i := 5) (oi := { dst := some 70, op := Go.Op.fieldAddr 90 (Go.Operand.tmp 10) 1, type := 0, pos := "l15_emit.go:82", after := #[], guard := none }) (v := ?_) rfl (by kernel_rfl) (by kernel_rfl) (by kernel_rfl) (fun _ _ _ h => h) (Or.inl ⟨by rfl, ?_⟩) (by assumption) ?_
  rotate_left
  · intro w hSw
    (try dsimp only at hSw)
    go_simp
    (try with_reducible rfl)
  try simp only [Act.put, List.setIfInBounds_toArray, List.set_cons_zero, List.set_cons_succ]
  refine wpAnyH_take (i := 6) (oi := { dst := some 71, op := Go.Op.load 3 (Go.Operand.tmp 70), type := 3, pos := "l15_emit.go:82", after := #[{ on := 5, ground := Go.Ground.data }], guard := none }) (v := ?_) rfl (by kernel_rfl) (by kernel_rfl) (by kernel_rfl) (fun _ _ _ h => h) (Or.inl ⟨by rfl, ?_⟩) (by assumption) ?_
  rotate_left
  · intro w hSw
    (try dsimp only at hSw)
    go_simp
    (try with_reducible rfl)
  try simp only [Act.put, List.setIfInBounds_toArray, List.set_cons_zero, List.set_cons_succ]
  refine ckAnyH_oneK (i := 3) (o := { dst := some 68, op := Go.Op.call { callee := Go.Callee.value (Go.Operand.func 61), args := #[Go.Operand.tmp 65, Go.Operand.tmp 67, Go.Operand.const (Go.Value.int Go.IntKind.i64 4)], argTypes := #[50, 3, 3] }, type := 3, pos := "l15_emit.go:82", after := #[{ on := 0, ground := Go.Ground.data }, { on := 2, ground := Go.Ground.data }], guard := none }) rfl rfl (by kernel_rfl) (fun K9 hK9 => ?_)
  have hdr : Below w0.heap.size w0 w0.drew := (Below.refl _ w0).drew
  have HBD := HBX.out.grow hdr
  refine wp_call_of (f := 61) (args := #[.pointer (some ⟨E, 0, none⟩), .int .i64 a, .int .i64 4]) (by go_simp) (take_any lo E v l a 4 w0.drew HBD.em HBD.hi (by omega) ha) ?_
  rintro e w2 ⟨x, v2, rfl, rfl, h1, h2⟩
  rw [HRR.out]
  have HB2 : Hid (BoxE lo w2 E w.heap.size v2 (l ++ takeL a 4) #[.int .i64 a, .int .i64 b] 90) := HBD.to h1 h2
  have HT2 : Hid (EmTo lo E w v w2 v2) := HTO.out.trans ((EmTo.grow v hdr HBX.out.hi).trans h2)
  clear h1 h2
  have hH2 : w2.cell? ⟨w.heap.size, 0, none⟩ = some (.int .i64 a) ∧ w2.cell? ⟨w.heap.size, 1, none⟩ = some (.int .i64 b) := ⟨HB2.out.cell 0, HB2.out.cell 1⟩
  refine ⟨_, rfl, hK9 _ _ ⟨hH2, ?_⟩⟩
  try simp only [Act.put, List.setIfInBounds_toArray, List.set_cons_zero, List.set_cons_succ]
  clear hK9 hHeld HBD hdr
  refine ckAnyH_oneK (i := 7) (o := { dst := some 72, op := Go.Op.call { callee := Go.Callee.value (Go.Operand.func 61), args := #[Go.Operand.tmp 69, Go.Operand.tmp 71, Go.Operand.const (Go.Value.int Go.IntKind.i64 5)], argTypes := #[50, 3, 3] }, type := 3, pos := "l15_emit.go:82", after := #[{ on := 4, ground := Go.Ground.data }, { on := 6, ground := Go.Ground.data }, { on := 3, ground := Go.Ground.chain }], guard := none }) rfl rfl (by kernel_rfl) (fun K9 hK9 => ?_)
  refine wp_call_of (f := 61) (args := #[.pointer (some ⟨E, 0, none⟩), .int .i64 b, .int .i64 5]) (by go_simp) (take_any lo E v2 (l ++ takeL a 4) b 5 w2 HB2.out.em HB2.out.hi (by omega) hb) ?_
  rintro e w3 ⟨x, v3, rfl, rfl, h1, h2⟩
  rw [HQQ.out]
  have HB3 : Hid (BoxE lo w3 E w.heap.size v3 ((l ++ takeL a 4) ++ takeL b 5) #[.int .i64 a, .int .i64 b] 90) := HB2.out.to h1 h2
  have HT3 : Hid (EmTo lo E w v w3 v3) := HT2.out.trans h2
  clear h1 h2
  have hH3 : w3.cell? ⟨w.heap.size, 0, none⟩ = some (.int .i64 a) ∧ w3.cell? ⟨w.heap.size, 1, none⟩ = some (.int .i64 b) := ⟨HB3.out.cell 0, HB3.out.cell 1⟩
  refine ⟨_, rfl, hK9 _ _ ⟨hH3, ?_⟩⟩
  try simp only [Act.put, List.setIfInBounds_toArray, List.set_cons_zero, List.set_cons_succ]
  clear hK9 hH2
  refine wpAnyH_take (i := 8) (oi := { dst := some 11, op := Go.Op.assign (Go.Operand.tmp 68), type := 3, pos := "l15_emit.go:82", after := #[{ on := 3, ground := Go.Ground.data }, { on := 7, ground := Go.Ground.chain }, { on := 0, ground := Go.Ground.phase }, { on := 1, ground := Go.Ground.phase }, { on := 2, ground := Go.Ground.phase }, { on := 3, ground := Go.Ground.phase }, { on := 4, ground := Go.Ground.textOnly Go.Departure.lateStores }, { on := 5, ground := Go.Ground.textOnly Go.Departure.lateStores }, { on := 6, ground := Go.Ground.textOnly Go.Departure.lateStores }, { on := 7, ground := Go.Ground.textOnly Go.Departure.lateStoresUnsure }], guard := none }) (v := ?_) rfl (by kernel_rfl) (by kernel_rfl) (by kernel_rfl) (fun _ _ _ h => h) (Or.inl ⟨by rfl, ?_⟩) (by assumption) ?_
  rotate_left
  · intro w hSw
    (try dsimp only at hSw)
    go_simp
    (try with_reducible rfl)
  try simp only [Act.put, List.setIfInBounds_toArray, List.set_cons_zero, List.set_cons_succ]
  refine wpAnyH_take (i := 9) (oi := { dst := some 12, op := Go.Op.assign (Go.Operand.tmp 72), type := 3, pos := "l15_emit.go:82", after := #[{ on := 7, ground := Go.Ground.data }, { on := 8, ground := Go.Ground.chain }, { on := 0, ground := Go.Ground.phase }, { on := 1, ground := Go.Ground.phase }, { on := 2, ground := Go.Ground.phase }, { on := 3, ground := Go.Ground.phase }, { on := 4, ground := Go.Ground.phase }, { on := 5, ground := Go.Ground.phase }, { on := 6, ground := Go.Ground.phase }, { on := 7, ground := Go.Ground.phase }, { on := 8, ground := Go.Ground.phase }], guard := none }) (v := ?_) rfl (by kernel_rfl) (by kernel_rfl) (by kernel_rfl) (fun _ _ _ h => h) (Or.inl ⟨by rfl, ?_⟩) (by assumption) ?_
  rotate_left
  · intro w hSw
    (try dsimp only at hSw)
    go_simp
    (try with_reducible rfl)
  try simp only [Act.put, List.setIfInBounds_toArray, List.set_cons_zero, List.set_cons_succ]
  refine wpAnyH_done (by kernel_rfl) ?_ _
  simp only [Exit.then]
  go_at_K
  clear hH3 p0 p1
  go_wp2_with fail
  refine (put_one lo E v3 ((l ++ takeL a 4) ++ takeL b 5) 6 0 r q 0 _ HB3.out.em HB3.out.hi (by omega)).mono ?_
  rintro e w9 ⟨x, v9, rfl, _, h1, h2⟩
  have H1 : Hid (EmIs lo w9 E v9 (((l ++ takeL a 4) ++ takeL b 5) ++ [⟨6, 0, r, q, 0⟩])) := h1
  have HT9 : Hid (EmTo lo E w v w9 v9) := HT3.out.trans h2
  clear h1 h2
  go_wp2
  refine ⟨rfl, _, results_none rfl _ _ _, _, v9, rfl, trivial, by rw [HRR.out, HQQ.out, ← List.append_assoc, ← List.append_assoc]; exact H1.out, HT9.out⟩

set_option maxRecDepth 100000 in
set_option maxHeartbeats 4000000 in
theorem em_word (lo E : Nat) (v : Value) (l : List InsD) (op d a b : Int) (w : World) (he : EmIs lo w E v l) (hlo : lo ≤ w.heap.size) (hn : l.length ≤ 800000) (hd : homeB d = true) (ha : homeB a = true) (hb : homeB b = true) (hop : 1 ≤ op ∧ op ≤ 10) :
    Calls Tryd.prog 34 #[.pointer (some ⟨E, 0, none⟩), .iface 97 (.agg #[.int .i64 op, .int .i64 d, .int .i64 a, .int .i64 b])] w fun e w' => GivesEm lo E w v (fun _ => True) (l ++ (takeL a 4 ++ (takeL b 5 ++ giveL d (11 + op) (takeR a 4) (takeR b 5) 0))) e w' := by
  obtain ⟨hbx, hto⟩ := BoxE.new he hlo #[.int .i64 op, .int .i64 d, .int .i64 a, .int .i64 b] 97
  obtain ⟨w0, hw0⟩ : ∃ W, w.alloc (.cells #[.int .i64 op, .int .i64 d, .int .i64 a, .int .i64 b] 97) = W := ⟨_, rfl⟩
  rw [hw0] at hbx hto
  have HBX : Hid (BoxE lo w0 E w.heap.size v l #[.int .i64 op, .int .i64 d, .int .i64 a, .int .i64 b] 97) := hbx
  have HTO : Hid (EmTo lo E w v w0 v) := hto
  have p0 : w0.cell? ⟨w.heap.size, 0, none⟩ = some (.int .i64 op) := HBX.out.cell 0
  have p1 : w0.cell? ⟨w.heap.size, 1, none⟩ = some (.int .i64 d) := HBX.out.cell 1
  have p2 : w0.cell? ⟨w.heap.size, 2, none⟩ = some (.int .i64 a) := HBX.out.cell 2
  have p3 : w0.cell? ⟨w.heap.size, 3, none⟩ = some (.int .i64 b) := HBX.out.cell 3
  clear hbx hto he
  have y0 := wordPlace_yes
  have n0 := wordPlace_no
  have y1 := constPlace_yes
  have n1 := constPlace_no
  have y2 := loadPlace_yes
  have n2 := loadPlace_no
  have y3 := storePlace_yes
  have n3 := storePlace_no
  have y4 := outPlace_yes
  have n4 := outPlace_no
  have y5 := readPlace_yes
  have n5 := readPlace_no
  have y6 := copyPlace_yes
  have n6 := copyPlace_no
  go_enter Tryd.func34, Tryd.ntmps34
  go_wp2_with fail
  try rw [hw0]
  clear y0 n0 y1 n1 y2 n2 y3 n3 y4 n4 y5 n5 y6 n6
  clear hw0
  obtain ⟨r, HRR⟩ : ∃ r, Hid (takeR a 4 = r) := ⟨_, rfl⟩
  obtain ⟨q, HQQ⟩ : ∃ q, Hid (takeR b 5 = q) := ⟨_, rfl⟩
  have hl2 : (l ++ takeL a 4).length ≤ 900000 := by have := takeL_len a 4; rw [List.length_append]; omega
  have hl3 : ((l ++ takeL a 4) ++ takeL b 5).length ≤ 900000 := by have := takeL_len a 4; have := takeL_len b 5; rw [List.length_append, List.length_append]; omega
  refine wp_region_held_drew (S := fun w' => w'.cell? ⟨w.heap.size, 0, none⟩ = some (.int .i64 op) ∧ w'.cell? ⟨w.heap.size, 1, none⟩ = some (.int .i64 d) ∧ w'.cell? ⟨w.heap.size, 2, none⟩ = some (.int .i64 a) ∧ w'.cell? ⟨w.heap.size, 3, none⟩ = some (.int .i64 b)) (by kernel_rfl) ⟨p0, p1, p2, p3⟩ (fun hHeld => ?_)
  refine wpAnyH_take (i := 0) (oi := { dst := some 21, op := Go.Op.move (Go.Operand.tmp 0), type := 50, pos := "l15_emit.go:74", after := #[], guard := none }) (v := ?_) rfl (by kernel_rfl) (by kernel_rfl) (by kernel_rfl) (fun _ _ _ h => h) (Or.inl ⟨by rfl, ?_⟩) (by assumption) ?_
  rotate_left
  · intro w hSw
    (try dsimp only at hSw)
    go_simp
    (try with_reducible rfl)
  try simp only [Act.put, List.setIfInBounds_toArray, List.set_cons_zero, List.set_cons_succ]
  refine wpAnyH_take (i := 1) (oi := { dst := some 22, op := Go.Op.fieldAddr 97 (Go.Operand.tmp 4) 2, type := 0, pos := "l15_emit.go:74", after := #[], guard := none }) (v := ?_) rfl (by kernel_rfl) (by kernel_rfl) (by kernel_rfl) (fun _ _ _ h => h) (Or.inl ⟨by rfl, ?_⟩) (by assumption) ?_
  rotate_left
  · intro w hSw
    (try dsimp only at hSw)
    go_simp
    (try with_reducible rfl)
  try simp only [Act.put, List.setIfInBounds_toArray, List.set_cons_zero, List.set_cons_succ]
  refine wpAnyH_take (i := 2) (oi := { dst := some 23, op := Go.Op.load 3 (Go.Operand.tmp 22), type := 3, pos := "l15_emit.go:74", after := #[{ on := 1, ground := Go.Ground.data }], guard := none }) (v := ?_) rfl (by kernel_rfl) (by kernel_rfl) (by kernel_rfl) (fun _ _ _ h => h) (Or.inl ⟨by rfl, ?_⟩) (by assumption) ?_
  rotate_left
  · intro w hSw
    (try dsimp only at hSw)
    go_simp
    (try with_reducible rfl)
  try simp only [Act.put, List.setIfInBounds_toArray, List.set_cons_zero, List.set_cons_succ]
  refine wpAnyH_take (i := 4) (oi := { dst := some 25, op := Go.Op.move (Go.Operand.tmp 0), type := 50, pos := "l15_emit.go:74", after := #[], guard := none }) (v := ?_) rfl (by kernel_rfl) (by kernel_rfl) (by kernel_rfl) (fun _ _ _ h => h) (Or.inl ⟨by rfl, ?_⟩) (by assumption) ?_
  rotate_left
  · intro w hSw
    (try dsimp only at hSw)
    go_simp
    (try with_reducible rfl)
  try simp only [Act.put, List.setIfInBounds_toArray, List.set_cons_zero, List.set_cons_succ]
  refine wpAnyH_take (i := 5) (oi := { dst := some 26, op := Go.Op.fieldAddr 97 (Go.Operand.tmp 4) 3, type := 0, pos := "l15_emit.go:74", after := #[], guard := none }) (v := ?_) rfl (by kernel_rfl) (by kernel_rfl) (by kernel_rfl) (fun _ _ _ h => h) (Or.inl ⟨by rfl, ?_⟩) (by assumption) ?_
  rotate_left
  · intro w hSw
    (try dsimp only at hSw)
    go_simp
    (try with_reducible rfl)
  try simp only [Act.put, List.setIfInBounds_toArray, List.set_cons_zero, List.set_cons_succ]
  refine wpAnyH_take (i := 6) (oi := { dst := some 27, op := Go.Op.load 3 (Go.Operand.tmp 26), type := 3, pos := "l15_emit.go:74", after := #[{ on := 5, ground := Go.Ground.data }], guard := none }) (v := ?_) rfl (by kernel_rfl) (by kernel_rfl) (by kernel_rfl) (fun _ _ _ h => h) (Or.inl ⟨by rfl, ?_⟩) (by assumption) ?_
  rotate_left
  · intro w hSw
    (try dsimp only at hSw)
    go_simp
    (try with_reducible rfl)
  try simp only [Act.put, List.setIfInBounds_toArray, List.set_cons_zero, List.set_cons_succ]
  refine ckAnyH_oneK (i := 3) (o := { dst := some 24, op := Go.Op.call { callee := Go.Callee.value (Go.Operand.func 61), args := #[Go.Operand.tmp 21, Go.Operand.tmp 23, Go.Operand.const (Go.Value.int Go.IntKind.i64 4)], argTypes := #[50, 3, 3] }, type := 3, pos := "l15_emit.go:74", after := #[{ on := 0, ground := Go.Ground.data }, { on := 2, ground := Go.Ground.data }], guard := none }) rfl rfl (by kernel_rfl) (fun K9 hK9 => ?_)
  have hdr : Below w0.heap.size w0 w0.drew := (Below.refl _ w0).drew
  have HBD := HBX.out.grow hdr
  refine wp_call_of (f := 61) (args := #[.pointer (some ⟨E, 0, none⟩), .int .i64 a, .int .i64 4]) (by go_simp) (take_any lo E v l a 4 w0.drew HBD.em HBD.hi (by omega) ha) ?_
  rintro e w2 ⟨x, v2, rfl, rfl, h1, h2⟩
  rw [HRR.out]
  have HB2 : Hid (BoxE lo w2 E w.heap.size v2 (l ++ takeL a 4) #[.int .i64 op, .int .i64 d, .int .i64 a, .int .i64 b] 97) := HBD.to h1 h2
  have HT2 : Hid (EmTo lo E w v w2 v2) := HTO.out.trans ((EmTo.grow v hdr HBX.out.hi).trans h2)
  clear h1 h2
  have hH2 : w2.cell? ⟨w.heap.size, 0, none⟩ = some (.int .i64 op) ∧ w2.cell? ⟨w.heap.size, 1, none⟩ = some (.int .i64 d) ∧ w2.cell? ⟨w.heap.size, 2, none⟩ = some (.int .i64 a) ∧ w2.cell? ⟨w.heap.size, 3, none⟩ = some (.int .i64 b) := ⟨HB2.out.cell 0, HB2.out.cell 1, HB2.out.cell 2, HB2.out.cell 3⟩
  refine ⟨_, rfl, hK9 _ _ ⟨hH2, ?_⟩⟩
  try simp only [Act.put, List.setIfInBounds_toArray, List.set_cons_zero, List.set_cons_succ]
  clear hK9 hHeld HBD hdr
  refine ckAnyH_oneK (i := 7) (o := { dst := some 28, op := Go.Op.call { callee := Go.Callee.value (Go.Operand.func 61), args := #[Go.Operand.tmp 25, Go.Operand.tmp 27, Go.Operand.const (Go.Value.int Go.IntKind.i64 5)], argTypes := #[50, 3, 3] }, type := 3, pos := "l15_emit.go:74", after := #[{ on := 4, ground := Go.Ground.data }, { on := 6, ground := Go.Ground.data }, { on := 3, ground := Go.Ground.chain }], guard := none }) rfl rfl (by kernel_rfl) (fun K9 hK9 => ?_)
  refine wp_call_of (f := 61) (args := #[.pointer (some ⟨E, 0, none⟩), .int .i64 b, .int .i64 5]) (by go_simp) (take_any lo E v2 (l ++ takeL a 4) b 5 w2 HB2.out.em HB2.out.hi (by omega) hb) ?_
  rintro e w3 ⟨x, v3, rfl, rfl, h1, h2⟩
  rw [HQQ.out]
  have HB3 : Hid (BoxE lo w3 E w.heap.size v3 ((l ++ takeL a 4) ++ takeL b 5) #[.int .i64 op, .int .i64 d, .int .i64 a, .int .i64 b] 97) := HB2.out.to h1 h2
  have HT3 : Hid (EmTo lo E w v w3 v3) := HT2.out.trans h2
  clear h1 h2
  have hH3 : w3.cell? ⟨w.heap.size, 0, none⟩ = some (.int .i64 op) ∧ w3.cell? ⟨w.heap.size, 1, none⟩ = some (.int .i64 d) ∧ w3.cell? ⟨w.heap.size, 2, none⟩ = some (.int .i64 a) ∧ w3.cell? ⟨w.heap.size, 3, none⟩ = some (.int .i64 b) := ⟨HB3.out.cell 0, HB3.out.cell 1, HB3.out.cell 2, HB3.out.cell 3⟩
  refine ⟨_, rfl, hK9 _ _ ⟨hH3, ?_⟩⟩
  try simp only [Act.put, List.setIfInBounds_toArray, List.set_cons_zero, List.set_cons_succ]
  clear hK9 hH2
  refine wpAnyH_take (i := 8) (oi := { dst := some 5, op := Go.Op.assign (Go.Operand.tmp 24), type := 3, pos := "l15_emit.go:74", after := #[{ on := 3, ground := Go.Ground.data }, { on := 7, ground := Go.Ground.chain }, { on := 0, ground := Go.Ground.phase }, { on := 1, ground := Go.Ground.phase }, { on := 2, ground := Go.Ground.phase }, { on := 3, ground := Go.Ground.phase }, { on := 4, ground := Go.Ground.textOnly Go.Departure.lateStores }, { on := 5, ground := Go.Ground.textOnly Go.Departure.lateStores }, { on := 6, ground := Go.Ground.textOnly Go.Departure.lateStores }, { on := 7, ground := Go.Ground.textOnly Go.Departure.lateStoresUnsure }], guard := none }) (v := ?_) rfl (by kernel_rfl) (by kernel_rfl) (by kernel_rfl) (fun _ _ _ h => h) (Or.inl ⟨by rfl, ?_⟩) (by assumption) ?_
  rotate_left
  · intro w hSw
    (try dsimp only at hSw)
    go_simp
    (try with_reducible rfl)
  try simp only [Act.put, List.setIfInBounds_toArray, List.set_cons_zero, List.set_cons_succ]
  refine wpAnyH_take (i := 9) (oi := { dst := some 6, op := Go.Op.assign (Go.Operand.tmp 28), type := 3, pos := "l15_emit.go:74", after := #[{ on := 7, ground := Go.Ground.data }, { on := 8, ground := Go.Ground.chain }, { on := 0, ground := Go.Ground.phase }, { on := 1, ground := Go.Ground.phase }, { on := 2, ground := Go.Ground.phase }, { on := 3, ground := Go.Ground.phase }, { on := 4, ground := Go.Ground.phase }, { on := 5, ground := Go.Ground.phase }, { on := 6, ground := Go.Ground.phase }, { on := 7, ground := Go.Ground.phase }, { on := 8, ground := Go.Ground.phase }], guard := none }) (v := ?_) rfl (by kernel_rfl) (by kernel_rfl) (by kernel_rfl) (fun _ _ _ h => h) (Or.inl ⟨by rfl, ?_⟩) (by assumption) ?_
  rotate_left
  · intro w hSw
    (try dsimp only at hSw)
    go_simp
    (try with_reducible rfl)
  try simp only [Act.put, List.setIfInBounds_toArray, List.set_cons_zero, List.set_cons_succ]
  refine wpAnyH_done (by kernel_rfl) ?_ _
  simp only [Exit.then]
  go_at_K
  clear hH3 p0 p1 p2 p3
  have q0 : w3.cell? ⟨w.heap.size, 0, none⟩ = some (.int .i64 op) := HB3.out.cell 0
  have q1 : w3.cell? ⟨w.heap.size, 1, none⟩ = some (.int .i64 d) := HB3.out.cell 1
  go_wp2_with fail
  refine (give_any lo E v3 ((l ++ takeL a 4) ++ takeL b 5) d (11 + op) 0 r q 0 _ HB3.out.em HB3.out.hi (by omega) hd).mono ?_
  rintro e w9 ⟨x, v9, rfl, _, h1, h2⟩
  have H1 : Hid (EmIs lo w9 E v9 (((l ++ takeL a 4) ++ takeL b 5) ++ giveL d (11 + op) r q 0)) := h1
  have HT9 : Hid (EmTo lo E w v w9 v9) := HT3.out.trans h2
  clear h1 h2
  go_wp2
  refine ⟨rfl, _, results_none rfl _ _ _, _, v9, rfl, trivial, by rw [HRR.out, HQQ.out, ← List.append_assoc, ← List.append_assoc]; exact H1.out, HT9.out⟩

end Go.Proofs.YtgnngibbojjebaaDoor
