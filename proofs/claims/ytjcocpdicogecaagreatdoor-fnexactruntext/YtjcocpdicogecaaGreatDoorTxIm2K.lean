/- What an op names, as the program lists it. -/
import Derived.Test.YtjcocpdicogecaaGreatDoorKTx1
import Derived.Test.YtjcocpdicogecaaGreatDoorKOwn
import Derived.Deep.DeepCutAuto
namespace Go.Proofs.YtjcocpdicogecaaGreatDoor
open Go.ChangeShapes Go.WideShapes Go.ChangeAt Go.RowKit
set_option linter.unusedVariables false

def fldC (X : Nat) (l : List (Int × Nat)) : List Value := l.flatMap (fun q => [.int .i64 q.1, .pointer (some ⟨X, q.2, none⟩)])
theorem fldC_len (X : Nat) (l : List (Int × Nat)) : (fldC X l).length = l.length * 2 := by
  induction l with
  | nil => rfl
  | cons x l ih =>
    show (_ ++ fldC X l).length = _
    rw [List.length_append, ih, List.length_cons]
    simp
    omega
theorem fldC_snoc (X : Nat) (l : List (Int × Nat)) (q : Int × Nat) : fldC X (l ++ [q]) = fldC X l ++ [.int .i64 q.1, .pointer (some ⟨X, q.2, none⟩)] := by simp [fldC]
theorem fldC_get {X : Nat} {l : List (Int × Nat)} {i : Nat} {q : Int × Nat} (hx : l[i]? = some q) {c : Nat} (hc : c < 2) : (fldC X l)[i * 2 + c]? = [Value.int .i64 q.1, .pointer (some ⟨X, q.2, none⟩)][c]? := by
  induction l generalizing i with
  | nil => simp at hx
  | cons y l ih =>
    show ([Value.int .i64 y.1, .pointer (some ⟨X, y.2, none⟩)] ++ fldC X l)[i * 2 + c]? = _
    cases i with
    | zero =>
      simp at hx
      subst hx
      rw [List.getElem?_append_left (by simp; omega)]
      simp
    | succ i =>
      simp at hx
      rw [List.getElem?_append_right (by simp; omega), ← ih hx]
      congr 1
      simp
      omega
/-- A list of what is named, in memory of the call's own. -/
def OwnFlds (w : World) (lo : Nat) (v : Value) (X : Nat) (l : List (Int × Nat)) : Prop := w.ownsRow lo 91 2 v l.length (fldC X l)
def GivesFlds (w : World) (X : Nat) (l : List (Int × Nat)) (e : Ending) (w' : World) : Prop := ∃ v, e = .returned v ∧ OwnFlds w' w.heap.size v X l ∧ Below w.heap.size w w'
theorem OwnFlds.keep {w w' : World} {lo X : Nat} {v : Value} {l : List (Int × Nat)} (h : OwnFlds w lo v X l) (hb : Below w.heap.size w w') : OwnFlds w' lo v X l := ownsRow_later h hb
theorem OwnFlds.low {w : World} {lo lo' X : Nat} {v : Value} {l : List (Int × Nat)} (h : OwnFlds w lo v X l) (hl : lo' ≤ lo) : OwnFlds w lo' v X l := ownsRow_low h hl
theorem OwnFlds.row {w : World} {lo X : Nat} {v : Value} {l : List (Int × Nat)} (h : OwnFlds w lo v X l) :
    ∃ a cap, v = .slice a l.length cap ∧ (0 < l.length → ∃ g, a = some ⟨g, 0, none⟩ ∧ lo ≤ g ∧ g < w.heap.size ∧ ∀ (i : Nat) q, l[i]? = some q → w.cell? ⟨g, i * 2, none⟩ = some (.int .i64 q.1) ∧ w.cell? ⟨g, i * 2 + 1, none⟩ = some (.pointer (some ⟨X, q.2, none⟩))) := by
  rcases h.2 with ⟨rfl, h0⟩ | ⟨g, cap, cur, rfl, hlo, hg, h1, h2, h3, h4⟩
  · exact ⟨none, 0, by rw [h0], fun hp => absurd hp (by omega)⟩
  · refine ⟨_, cap, rfl, fun hp => ⟨g, rfl, hlo, (Array.getElem?_eq_some_iff.1 hg).1, fun i q hx => ?_⟩⟩
    have hi : i < l.length := (List.getElem?_eq_some_iff.1 hx).1
    have key : ∀ c u, c < 2 → [Value.int .i64 q.1, .pointer (some ⟨X, q.2, none⟩)][c]? = some u → w.cell? ⟨g, i * 2 + c, none⟩ = some u := fun c u hc hu => by
      have e1 : (cur.toList.take (l.length * 2))[i * 2 + c]? = cur[i * 2 + c]? := by rw [List.getElem?_take, if_pos (by omega)]; simp
      have e2 : cur[i * 2 + c]? = some u := by rw [← e1, h4, fldC_get hx hc]; exact hu
      simp [World.cell?, hg, e2]
    exact ⟨key 0 _ (by omega) rfl, key 1 _ (by omega) rfl⟩
theorem OwnFlds.next {w : World} {lo X n : Nat} {v : Value} {l : List (Int × Nat)} {p : Int} {k : Nat} (hn : l.length = n) (h : w.ownsRow lo 91 2 v (n + 1) (fldC X l ++ [.int .i64 p, .pointer (some ⟨X, k, none⟩)])) : OwnFlds w lo v X (l ++ [(p, k)]) := by
  unfold OwnFlds
  rw [List.length_append, fldC_snoc, List.length_singleton, hn]
  exact h
theorem ownFlds_new {w : World} {lo g X : Nat} (hg : w.heap[g]? = some (.cells #[] 91 (0, 0))) (hl : lo ≤ g) : OwnFlds w lo (.slice (some ⟨g, 0, none⟩) 0 0) X [] :=
  ⟨by simp [fldC], .inr ⟨g, 0, #[], rfl, hl, hg, Nat.le_refl _, Nat.zero_le _, rfl, rfl⟩⟩
theorem info_field : (Tryz.prog.info? 91).map (fun i => (i.zero, i.size, i.bytes)) = some (some (.agg #[.int .i64 0, .pointer none]), 2, 16) := by kernel_rfl
/-- All that an op may name. -/
def allK (op : Int) : List (Int × Nat) := if op = 4 then [((formV op).n, 4), ((formV op).a, 2)] else [((formV op).r, 1), ((formV op).a, 2), ((formV op).b, 3), ((formV op).n, 4)]
theorem kinds_all (op : Int) : kindsX op = (allK op).filter (fun q => decide (q.1 ≠ 0)) := rfl

theorem addF (b o j : Nat) : (⟨b, o, none⟩ : Addr).add j = ⟨b, o + j, none⟩ := by simp [Addr.add]
theorem cells_two (w : World) (a b : Value) (T : TypeId) : ∀ j u, [a, b][j]? = some u → (w.alloc (.cells #[a, b] T)).cell? ((⟨w.heap.size, 0, none⟩ : Addr).add j) = some u := fun j u hu => by
  rw [addF, Nat.zero_add, World.cell?_alloc_new]
  rcases j with _ | _ | j
  · simpa using hu
  · simpa using hu
  · simp at hu
theorem ownsRow_underF {w w1 : World} {lo : Nat} {t : TypeId} {s n : Nat} {v : Value} {xs : List Value} (h : w.ownsRow lo t s v n xs) (hlo : lo ≤ w.heap.size) (hg : w.grownBy w1 v.ownBlock) : Below lo w w1 := by
  refine (Below.refl lo w).grown hg hlo fun j ej => ?_
  rcases h.2 with ⟨rfl, _⟩ | ⟨g, cap, cur, rfl, hb, _, _⟩
  · simp [Value.ownBlock] at ej
  · simp [Value.ownBlock] at ej
    subst ej
    exact hb
/-- A list of what may be named, in a block of its own. -/
def AllAt (w : World) (A X : Nat) (l : List (Int × Nat)) : Prop := w.heap[A]? = some (.cells (fldC X l).toArray 91 (0, 0))
theorem AllAt.cell {w : World} {A X : Nat} {l : List (Int × Nat)} (h : AllAt w A X l) {i : Nat} {q : Int × Nat} (hx : l[i]? = some q) : w.cell? ⟨A, i * 2, none⟩ = some (.int .i64 q.1) ∧ w.cell? ⟨A, i * 2 + 1, none⟩ = some (.pointer (some ⟨X, q.2, none⟩)) := by
  have h0 := fldC_get (X := X) hx (c := 0) (by omega)
  have h1 := fldC_get (X := X) hx (c := 1) (by omega)
  unfold AllAt at h
  exact ⟨by simpa [World.cell?, h] using h0, by simpa [World.cell?, h] using h1⟩

set_option maxRecDepth 100000 in
set_option maxHeartbeats 4000000 in
theorem fieldsOf_any (op : Int) (X : Nat) (w : World) (hr : -9223372036854775808 ≤ op ∧ op ≤ 9223372036854775807) (hX : w.cell? ⟨X, 0, none⟩ = some (.int .i64 op)) (hT : Tabs w) :
    Calls Tryz.prog 49 #[.pointer (some ⟨X, 0, none⟩)] w fun e w' => GivesFlds w X (kindsX op) e w' := by
  have HT : Hid (FTab w) := hT.ft
  have HO : Hid (-9223372036854775808 ≤ op ∧ op ≤ 9223372036854775807) := hr
  obtain ⟨ks, HK⟩ : ∃ ks, Hid (kindsX op = ks) := ⟨_, rfl⟩
  rw [HK.out]
  obtain ⟨fm, HF⟩ : ∃ f, Hid (formV op = f) := ⟨_, rfl⟩
  obtain ⟨f0, f1, f2, f3⟩ := fm
  clear hT hr
  go_enter Tryz.func49, Tryz.ntmps49
  go_wp2_with fail
  refine (formOf_any op _ HO.out HT.out).mono ?_
  rintro e w1 ⟨rfl, b1⟩
  rw [HF.out]
  dsimp only
  generalize formOk op = q
  have HB1 : Hid (Below w.heap.size w w1) := b1
  replace hX := Bel.keeps b1 hX
  clear b1
  --WALK
  obtain ⟨B1, HB⟩ : ∃ B, Hid (w1.heap.size = B) := ⟨_, rfl⟩
  obtain ⟨w2, hw2⟩ : ∃ W, w1.alloc (.cells #[.int .i64 f0, .int .i64 f1, .int .i64 f2, .int .i64 f3] 108) = W := ⟨_, rfl⟩
  have HB2 : Hid (Below w.heap.size w w2) := by show Below _ _ _; rw [← hw2]; exact Bel.after HB1.out (Bel.alloc _ _)
  have hxg := World.alloc_heap_new w1 (.cells #[.int .i64 f0, .int .i64 f1, .int .i64 f2, .int .i64 f3] 108)
  rw [hw2, HB.out] at hxg
  have g0 : w2.cell? ⟨B1, 0, none⟩ = some (.int .i64 f0) := by simp [World.cell?, hxg]
  have g1 : w2.cell? ⟨B1, 1, none⟩ = some (.int .i64 f1) := by simp [World.cell?, hxg]
  have g2 : w2.cell? ⟨B1, 2, none⟩ = some (.int .i64 f2) := by simp [World.cell?, hxg]
  have g3 : w2.cell? ⟨B1, 3, none⟩ = some (.int .i64 f3) := by simp [World.cell?, hxg]
  have hx2 : w2.cell? ⟨X, 0, none⟩ = some (.int .i64 op) := by rw [← hw2]; exact Bel.keeps (Bel.alloc _ _) hX
  clear hxg hX
  go_wp2_with fail
  try rw [hw2]
  try rw [HB.out]
  clear hw2
  refine wp_region_held_drew (S := fun w' => w'.cell? ⟨B1, 0, none⟩ = some (.int .i64 f0) ∧ w'.cell? ⟨B1, 1, none⟩ = some (.int .i64 f1) ∧ w'.cell? ⟨B1, 2, none⟩ = some (.int .i64 f2) ∧ w'.cell? ⟨B1, 3, none⟩ = some (.int .i64 f3)) (by kernel_rfl) ⟨g0, g1, g2, g3⟩ (fun hHeld => ?_)
  obtain ⟨u1, hu1⟩ : ∃ W, w2.drew = W := ⟨_, rfl⟩
  have HBd : Hid (Below w.heap.size w u1) := by show Below _ _ _; rw [← hu1]; exact HB2.out.drew
  have hxd : u1.cell? ⟨X, 0, none⟩ = some (.int .i64 op) := by rw [← hu1]; simpa using hx2
  rw [hu1] at hHeld ⊢
  clear hu1 g0 g1 g2 g3 hx2 HB2
  refine wpAnyH_take (i := 0) (oi := { dst := some 17, op := Go.Op.fieldAddr 108 (Go.Operand.tmp 3) 0, type := 0, pos := "l17_text.go:89", after := #[], guard := none }) (v := ?_) rfl (by kernel_rfl) (by kernel_rfl) (by kernel_rfl) (fun _ _ _ h => h) (Or.inl ⟨by rfl, ?_⟩) (by assumption) ?_
  rotate_left
  · intro w hSw
    (try dsimp only at hSw)
    go_simp
    (try with_reducible rfl)
  try simp only [Act.put, List.setIfInBounds_toArray, List.set_cons_zero, List.set_cons_succ]
  refine wpAnyH_take (i := 1) (oi := { dst := some 18, op := Go.Op.load 88 (Go.Operand.tmp 17), type := 88, pos := "l17_text.go:89", after := #[{ on := 0, ground := Go.Ground.data }], guard := none }) (v := ?_) rfl (by kernel_rfl) (by kernel_rfl) (by kernel_rfl) (fun _ _ _ h => h) (Or.inl ⟨by rfl, ?_⟩) (by assumption) ?_
  rotate_left
  · intro w hSw
    (try dsimp only at hSw)
    go_simp
    (try with_reducible rfl)
  try simp only [Act.put, List.setIfInBounds_toArray, List.set_cons_zero, List.set_cons_succ]
  refine wpAnyH_take (i := 2) (oi := { dst := some 19, op := Go.Op.move (Go.Operand.tmp 0), type := 87, pos := "l17_text.go:89", after := #[], guard := none }) (v := ?_) rfl (by kernel_rfl) (by kernel_rfl) (by kernel_rfl) (fun _ _ _ h => h) (Or.inl ⟨by rfl, ?_⟩) (by assumption) ?_
  rotate_left
  · intro w hSw
    (try dsimp only at hSw)
    go_simp
    (try with_reducible rfl)
  try simp only [Act.put, List.setIfInBounds_toArray, List.set_cons_zero, List.set_cons_succ]
  refine wpAnyH_take (i := 3) (oi := { dst := some 20, op := Go.Op.nilCheck (Go.Operand.tmp 19), type := 0, pos := "l17_text.go:89", after := #[{ on := 2, ground := Go.Ground.data }], guard := none }) (v := ?_) rfl (by kernel_rfl) (by kernel_rfl) (by kernel_rfl) (fun _ _ _ h => h) (Or.inl ⟨by rfl, ?_⟩) (by assumption) ?_
  rotate_left
  · intro w hSw
    (try dsimp only at hSw)
    go_simp
    (try with_reducible rfl)
  try simp only [Act.put, List.setIfInBounds_toArray, List.set_cons_zero, List.set_cons_succ]
  refine wpAnyH_take (i := 4) (oi := { dst := some 21, op := Go.Op.fieldAddr 36 (Go.Operand.tmp 20) 1, type := 0, pos := "l17_text.go:89", after := #[{ on := 3, ground := Go.Ground.data }], guard := none }) (v := ?_) rfl (by kernel_rfl) (by kernel_rfl) (by kernel_rfl) (fun _ _ _ h => h) (Or.inl ⟨by rfl, ?_⟩) (by assumption) ?_
  rotate_left
  · intro w hSw
    (try dsimp only at hSw)
    go_simp
    (try with_reducible rfl)
  try simp only [Act.put, List.setIfInBounds_toArray, List.set_cons_zero, List.set_cons_succ]
  refine wpAnyH_take (i := 5) (oi := { dst := some 22, op := Go.Op.build 91 #[(0, Go.Operand.tmp 18), (1, Go.Operand.tmp 21)], type := 91, pos := "l17_text.go:89", after := #[{ on := 1, ground := Go.Ground.data }, { on := 4, ground := Go.Ground.data }], guard := none }) (v := ?_) rfl (by kernel_rfl) (by kernel_rfl) (by kernel_rfl) (fun _ _ _ h => h) (Or.inl ⟨by rfl, ?_⟩) (by assumption) ?_
  rotate_left
  · intro w hSw
    (try dsimp only at hSw)
    go_simp
    (try with_reducible rfl)
  try simp only [Act.put, List.setIfInBounds_toArray, List.set_cons_zero, List.set_cons_succ]
  refine wpAnyH_take (i := 6) (oi := { dst := some 23, op := Go.Op.fieldAddr 108 (Go.Operand.tmp 3) 1, type := 0, pos := "l17_text.go:89", after := #[], guard := none }) (v := ?_) rfl (by kernel_rfl) (by kernel_rfl) (by kernel_rfl) (fun _ _ _ h => h) (Or.inl ⟨by rfl, ?_⟩) (by assumption) ?_
  rotate_left
  · intro w hSw
    (try dsimp only at hSw)
    go_simp
    (try with_reducible rfl)
  try simp only [Act.put, List.setIfInBounds_toArray, List.set_cons_zero, List.set_cons_succ]
  refine wpAnyH_take (i := 7) (oi := { dst := some 24, op := Go.Op.load 88 (Go.Operand.tmp 23), type := 88, pos := "l17_text.go:89", after := #[{ on := 6, ground := Go.Ground.data }], guard := none }) (v := ?_) rfl (by kernel_rfl) (by kernel_rfl) (by kernel_rfl) (fun _ _ _ h => h) (Or.inl ⟨by rfl, ?_⟩) (by assumption) ?_
  rotate_left
  · intro w hSw
    (try dsimp only at hSw)
    go_simp
    (try with_reducible rfl)
  try simp only [Act.put, List.setIfInBounds_toArray, List.set_cons_zero, List.set_cons_succ]
  refine wpAnyH_take (i := 8) (oi := { dst := some 25, op := Go.Op.move (Go.Operand.tmp 0), type := 87, pos := "l17_text.go:89", after := #[], guard := none }) (v := ?_) rfl (by kernel_rfl) (by kernel_rfl) (by kernel_rfl) (fun _ _ _ h => h) (Or.inl ⟨by rfl, ?_⟩) (by assumption) ?_
  rotate_left
  · intro w hSw
    (try dsimp only at hSw)
    go_simp
    (try with_reducible rfl)
  try simp only [Act.put, List.setIfInBounds_toArray, List.set_cons_zero, List.set_cons_succ]
  refine wpAnyH_take (i := 9) (oi := { dst := some 26, op := Go.Op.nilCheck (Go.Operand.tmp 25), type := 0, pos := "l17_text.go:89", after := #[{ on := 8, ground := Go.Ground.data }], guard := none }) (v := ?_) rfl (by kernel_rfl) (by kernel_rfl) (by kernel_rfl) (fun _ _ _ h => h) (Or.inl ⟨by rfl, ?_⟩) (by assumption) ?_
  rotate_left
  · intro w hSw
    (try dsimp only at hSw)
    go_simp
    (try with_reducible rfl)
  try simp only [Act.put, List.setIfInBounds_toArray, List.set_cons_zero, List.set_cons_succ]
  refine wpAnyH_take (i := 10) (oi := { dst := some 27, op := Go.Op.fieldAddr 36 (Go.Operand.tmp 26) 2, type := 0, pos := "l17_text.go:89", after := #[{ on := 9, ground := Go.Ground.data }], guard := none }) (v := ?_) rfl (by kernel_rfl) (by kernel_rfl) (by kernel_rfl) (fun _ _ _ h => h) (Or.inl ⟨by rfl, ?_⟩) (by assumption) ?_
  rotate_left
  · intro w hSw
    (try dsimp only at hSw)
    go_simp
    (try with_reducible rfl)
  try simp only [Act.put, List.setIfInBounds_toArray, List.set_cons_zero, List.set_cons_succ]
  refine wpAnyH_take (i := 11) (oi := { dst := some 28, op := Go.Op.build 91 #[(0, Go.Operand.tmp 24), (1, Go.Operand.tmp 27)], type := 91, pos := "l17_text.go:89", after := #[{ on := 7, ground := Go.Ground.data }, { on := 10, ground := Go.Ground.data }], guard := none }) (v := ?_) rfl (by kernel_rfl) (by kernel_rfl) (by kernel_rfl) (fun _ _ _ h => h) (Or.inl ⟨by rfl, ?_⟩) (by assumption) ?_
  rotate_left
  · intro w hSw
    (try dsimp only at hSw)
    go_simp
    (try with_reducible rfl)
  try simp only [Act.put, List.setIfInBounds_toArray, List.set_cons_zero, List.set_cons_succ]
  refine wpAnyH_take (i := 12) (oi := { dst := some 29, op := Go.Op.fieldAddr 108 (Go.Operand.tmp 3) 2, type := 0, pos := "l17_text.go:89", after := #[], guard := none }) (v := ?_) rfl (by kernel_rfl) (by kernel_rfl) (by kernel_rfl) (fun _ _ _ h => h) (Or.inl ⟨by rfl, ?_⟩) (by assumption) ?_
  rotate_left
  · intro w hSw
    (try dsimp only at hSw)
    go_simp
    (try with_reducible rfl)
  try simp only [Act.put, List.setIfInBounds_toArray, List.set_cons_zero, List.set_cons_succ]
  refine wpAnyH_take (i := 13) (oi := { dst := some 30, op := Go.Op.load 88 (Go.Operand.tmp 29), type := 88, pos := "l17_text.go:89", after := #[{ on := 12, ground := Go.Ground.data }], guard := none }) (v := ?_) rfl (by kernel_rfl) (by kernel_rfl) (by kernel_rfl) (fun _ _ _ h => h) (Or.inl ⟨by rfl, ?_⟩) (by assumption) ?_
  rotate_left
  · intro w hSw
    (try dsimp only at hSw)
    go_simp
    (try with_reducible rfl)
  try simp only [Act.put, List.setIfInBounds_toArray, List.set_cons_zero, List.set_cons_succ]
  refine wpAnyH_take (i := 14) (oi := { dst := some 31, op := Go.Op.move (Go.Operand.tmp 0), type := 87, pos := "l17_text.go:89", after := #[], guard := none }) (v := ?_) rfl (by kernel_rfl) (by kernel_rfl) (by kernel_rfl) (fun _ _ _ h => h) (Or.inl ⟨by rfl, ?_⟩) (by assumption) ?_
  rotate_left
  · intro w hSw
    (try dsimp only at hSw)
    go_simp
    (try with_reducible rfl)
  try simp only [Act.put, List.setIfInBounds_toArray, List.set_cons_zero, List.set_cons_succ]
  refine wpAnyH_take (i := 15) (oi := { dst := some 32, op := Go.Op.nilCheck (Go.Operand.tmp 31), type := 0, pos := "l17_text.go:89", after := #[{ on := 14, ground := Go.Ground.data }], guard := none }) (v := ?_) rfl (by kernel_rfl) (by kernel_rfl) (by kernel_rfl) (fun _ _ _ h => h) (Or.inl ⟨by rfl, ?_⟩) (by assumption) ?_
  rotate_left
  · intro w hSw
    (try dsimp only at hSw)
    go_simp
    (try with_reducible rfl)
  try simp only [Act.put, List.setIfInBounds_toArray, List.set_cons_zero, List.set_cons_succ]
  refine wpAnyH_take (i := 16) (oi := { dst := some 33, op := Go.Op.fieldAddr 36 (Go.Operand.tmp 32) 3, type := 0, pos := "l17_text.go:89", after := #[{ on := 15, ground := Go.Ground.data }], guard := none }) (v := ?_) rfl (by kernel_rfl) (by kernel_rfl) (by kernel_rfl) (fun _ _ _ h => h) (Or.inl ⟨by rfl, ?_⟩) (by assumption) ?_
  rotate_left
  · intro w hSw
    (try dsimp only at hSw)
    go_simp
    (try with_reducible rfl)
  try simp only [Act.put, List.setIfInBounds_toArray, List.set_cons_zero, List.set_cons_succ]
  refine wpAnyH_take (i := 17) (oi := { dst := some 34, op := Go.Op.build 91 #[(0, Go.Operand.tmp 30), (1, Go.Operand.tmp 33)], type := 91, pos := "l17_text.go:89", after := #[{ on := 13, ground := Go.Ground.data }, { on := 16, ground := Go.Ground.data }], guard := none }) (v := ?_) rfl (by kernel_rfl) (by kernel_rfl) (by kernel_rfl) (fun _ _ _ h => h) (Or.inl ⟨by rfl, ?_⟩) (by assumption) ?_
  rotate_left
  · intro w hSw
    (try dsimp only at hSw)
    go_simp
    (try with_reducible rfl)
  try simp only [Act.put, List.setIfInBounds_toArray, List.set_cons_zero, List.set_cons_succ]
  refine wpAnyH_take (i := 18) (oi := { dst := some 35, op := Go.Op.fieldAddr 108 (Go.Operand.tmp 3) 3, type := 0, pos := "l17_text.go:89", after := #[], guard := none }) (v := ?_) rfl (by kernel_rfl) (by kernel_rfl) (by kernel_rfl) (fun _ _ _ h => h) (Or.inl ⟨by rfl, ?_⟩) (by assumption) ?_
  rotate_left
  · intro w hSw
    (try dsimp only at hSw)
    go_simp
    (try with_reducible rfl)
  try simp only [Act.put, List.setIfInBounds_toArray, List.set_cons_zero, List.set_cons_succ]
  refine wpAnyH_take (i := 19) (oi := { dst := some 36, op := Go.Op.load 88 (Go.Operand.tmp 35), type := 88, pos := "l17_text.go:89", after := #[{ on := 18, ground := Go.Ground.data }], guard := none }) (v := ?_) rfl (by kernel_rfl) (by kernel_rfl) (by kernel_rfl) (fun _ _ _ h => h) (Or.inl ⟨by rfl, ?_⟩) (by assumption) ?_
  rotate_left
  · intro w hSw
    (try dsimp only at hSw)
    go_simp
    (try with_reducible rfl)
  try simp only [Act.put, List.setIfInBounds_toArray, List.set_cons_zero, List.set_cons_succ]
  refine wpAnyH_take (i := 20) (oi := { dst := some 37, op := Go.Op.move (Go.Operand.tmp 0), type := 87, pos := "l17_text.go:89", after := #[], guard := none }) (v := ?_) rfl (by kernel_rfl) (by kernel_rfl) (by kernel_rfl) (fun _ _ _ h => h) (Or.inl ⟨by rfl, ?_⟩) (by assumption) ?_
  rotate_left
  · intro w hSw
    (try dsimp only at hSw)
    go_simp
    (try with_reducible rfl)
  try simp only [Act.put, List.setIfInBounds_toArray, List.set_cons_zero, List.set_cons_succ]
  refine wpAnyH_take (i := 21) (oi := { dst := some 38, op := Go.Op.nilCheck (Go.Operand.tmp 37), type := 0, pos := "l17_text.go:89", after := #[{ on := 20, ground := Go.Ground.data }], guard := none }) (v := ?_) rfl (by kernel_rfl) (by kernel_rfl) (by kernel_rfl) (fun _ _ _ h => h) (Or.inl ⟨by rfl, ?_⟩) (by assumption) ?_
  rotate_left
  · intro w hSw
    (try dsimp only at hSw)
    go_simp
    (try with_reducible rfl)
  try simp only [Act.put, List.setIfInBounds_toArray, List.set_cons_zero, List.set_cons_succ]
  refine wpAnyH_take (i := 22) (oi := { dst := some 39, op := Go.Op.fieldAddr 36 (Go.Operand.tmp 38) 4, type := 0, pos := "l17_text.go:89", after := #[{ on := 21, ground := Go.Ground.data }], guard := none }) (v := ?_) rfl (by kernel_rfl) (by kernel_rfl) (by kernel_rfl) (fun _ _ _ h => h) (Or.inl ⟨by rfl, ?_⟩) (by assumption) ?_
  rotate_left
  · intro w hSw
    (try dsimp only at hSw)
    go_simp
    (try with_reducible rfl)
  try simp only [Act.put, List.setIfInBounds_toArray, List.set_cons_zero, List.set_cons_succ]
  refine wpAnyH_take (i := 23) (oi := { dst := some 40, op := Go.Op.build 91 #[(0, Go.Operand.tmp 36), (1, Go.Operand.tmp 39)], type := 91, pos := "l17_text.go:89", after := #[{ on := 19, ground := Go.Ground.data }, { on := 22, ground := Go.Ground.data }], guard := none }) (v := ?_) rfl (by kernel_rfl) (by kernel_rfl) (by kernel_rfl) (fun _ _ _ h => h) (Or.inl ⟨by rfl, ?_⟩) (by assumption) ?_
  rotate_left
  · intro w hSw
    (try dsimp only at hSw)
    go_simp
    (try with_reducible rfl)
  try simp only [Act.put, List.setIfInBounds_toArray, List.set_cons_zero, List.set_cons_succ]
  refine ckAnyH_oneK (i := 24) (o := { dst := some 41, op := Go.Op.buildSlice 85 4 #[(0, Go.Operand.tmp 22), (1, Go.Operand.tmp 28), (2, Go.Operand.tmp 34), (3, Go.Operand.tmp 40)], type := 85, pos := "l17_text.go:89", after := #[{ on := 5, ground := Go.Ground.data }, { on := 11, ground := Go.Ground.data }, { on := 17, ground := Go.Ground.data }, { on := 23, ground := Go.Ground.data }], guard := none }) rfl rfl (by kernel_rfl) (fun K9 hK9 => ?_)
  go_simp
  obtain ⟨u2, hu2⟩ : ∃ W, u1.alloc (.cells #[.int .i64 f0, .pointer (some ⟨X, 1, none⟩), .int .i64 f1, .pointer (some ⟨X, 2, none⟩), .int .i64 f2, .pointer (some ⟨X, 3, none⟩), .int .i64 f3, .pointer (some ⟨X, 4, none⟩)] 91) = W := ⟨_, rfl⟩
  have hal : Below u1.heap.size u1 u2 := by rw [← hu2]; exact Bel.alloc _ _
  have HA2 : Hid (AllAt u2 u1.heap.size X [(f0, 1), (f1, 2), (f2, 3), (f3, 4)]) := by show _ = _; rw [← hu2]; exact World.alloc_heap_new _ _
  have HB2 : Hid (Below w.heap.size w u2) := Bel.after HBd.out hal
  have hx2 := Bel.keeps hal hxd
  rw [hu2]
  refine hK9 _ _ ⟨⟨Bel.keeps hal hHeld.1, Bel.keeps hal hHeld.2.1, Bel.keeps hal hHeld.2.2.1, Bel.keeps hal hHeld.2.2.2⟩, ?_⟩
  try simp only [Act.put, List.setIfInBounds_toArray, List.set_cons_zero, List.set_cons_succ]
  have hHeld2 : u2.cell? ⟨B1, 0, none⟩ = some (.int .i64 f0) ∧ u2.cell? ⟨B1, 1, none⟩ = some (.int .i64 f1) ∧ u2.cell? ⟨B1, 2, none⟩ = some (.int .i64 f2) ∧ u2.cell? ⟨B1, 3, none⟩ = some (.int .i64 f3) := ⟨Bel.keeps hal hHeld.1, Bel.keeps hal hHeld.2.1, Bel.keeps hal hHeld.2.2.1, Bel.keeps hal hHeld.2.2.2⟩
  clear hK9 hHeld hxd hal hu2
  have hHeld := hHeld2
  refine wpAnyH_take (i := 25) (oi := { dst := some 5, op := Go.Op.assign (Go.Operand.tmp 41), type := 85, pos := "l17_text.go:89", after := #[{ on := 24, ground := Go.Ground.data }, { on := 0, ground := Go.Ground.phase }, { on := 1, ground := Go.Ground.phase }, { on := 2, ground := Go.Ground.phase }, { on := 3, ground := Go.Ground.phase }, { on := 4, ground := Go.Ground.phase }, { on := 5, ground := Go.Ground.phase }, { on := 6, ground := Go.Ground.phase }, { on := 7, ground := Go.Ground.phase }, { on := 8, ground := Go.Ground.phase }, { on := 9, ground := Go.Ground.phase }, { on := 10, ground := Go.Ground.phase }, { on := 11, ground := Go.Ground.phase }, { on := 12, ground := Go.Ground.phase }, { on := 13, ground := Go.Ground.phase }, { on := 14, ground := Go.Ground.phase }, { on := 15, ground := Go.Ground.phase }, { on := 16, ground := Go.Ground.phase }, { on := 17, ground := Go.Ground.phase }, { on := 18, ground := Go.Ground.phase }, { on := 19, ground := Go.Ground.phase }, { on := 20, ground := Go.Ground.phase }, { on := 21, ground := Go.Ground.phase }, { on := 22, ground := Go.Ground.phase }, { on := 23, ground := Go.Ground.phase }, { on := 24, ground := Go.Ground.phase }], guard := none }) (v := ?_) rfl (by kernel_rfl) (by kernel_rfl) (by kernel_rfl) (fun _ _ _ h => h) (Or.inl ⟨by rfl, ?_⟩) (by assumption) ?_
  rotate_left
  · intro w hSw
    (try dsimp only at hSw)
    go_simp
    (try with_reducible rfl)
  try simp only [Act.put, List.setIfInBounds_toArray, List.set_cons_zero, List.set_cons_succ]
  refine wpAnyH_done (by kernel_rfl) ?_ _
  simp only [Exit.then]
  go_at_K
  obtain ⟨g0, g1, g2, g3⟩ := hHeld2
  clear hHeld HBd
  obtain ⟨AL, HAL⟩ : ∃ A, Hid (u1.heap.size = A) := ⟨_, rfl⟩
  rw [HAL.out] at HA2 ⊢
  go_upto_if 46 with fail
  go_cut [5] (fun v wx => ∃ (A m : Nat), v = .slice (some ⟨A, 0, none⟩) m m ∧ (allK op).length = m ∧ AllAt wx A X (allK op) ∧ Below w.heap.size w wx)
  case first =>
    by_cases h4 : op = 4
    · subst h4
      go_wp2_with fail
      refine wp_region_held_drew (S := fun w' => w'.cell? ⟨B1, 0, none⟩ = some (.int .i64 f0) ∧ w'.cell? ⟨B1, 1, none⟩ = some (.int .i64 f1) ∧ w'.cell? ⟨B1, 2, none⟩ = some (.int .i64 f2) ∧ w'.cell? ⟨B1, 3, none⟩ = some (.int .i64 f3)) (by kernel_rfl) ⟨g0, g1, g2, g3⟩ (fun hHeld => ?_)
      obtain ⟨u3, hu3⟩ : ∃ W, u2.drew = W := ⟨_, rfl⟩
      have HBd3 : Hid (Below w.heap.size w u3) := by show Below _ _ _; rw [← hu3]; exact HB2.out.drew
      rw [hu3] at hHeld ⊢
      clear hu3 g0 g1 g2 g3 hx2
      refine wpAnyH_take (i := 0) (oi := { dst := some 47, op := Go.Op.fieldAddr 108 (Go.Operand.tmp 3) 3, type := 0, pos := "l17_text.go:91", after := #[], guard := none }) (v := ?_) rfl (by kernel_rfl) (by kernel_rfl) (by kernel_rfl) (fun _ _ _ h => h) (Or.inl ⟨by rfl, ?_⟩) (by assumption) ?_
      rotate_left
      · intro w hSw
        (try dsimp only at hSw)
        go_simp
        (try with_reducible rfl)
      try simp only [Act.put, List.setIfInBounds_toArray, List.set_cons_zero, List.set_cons_succ]
      refine wpAnyH_take (i := 1) (oi := { dst := some 48, op := Go.Op.load 88 (Go.Operand.tmp 47), type := 88, pos := "l17_text.go:91", after := #[{ on := 0, ground := Go.Ground.data }], guard := none }) (v := ?_) rfl (by kernel_rfl) (by kernel_rfl) (by kernel_rfl) (fun _ _ _ h => h) (Or.inl ⟨by rfl, ?_⟩) (by assumption) ?_
      rotate_left
      · intro w hSw
        (try dsimp only at hSw)
        go_simp
        (try with_reducible rfl)
      try simp only [Act.put, List.setIfInBounds_toArray, List.set_cons_zero, List.set_cons_succ]
      refine wpAnyH_take (i := 2) (oi := { dst := some 49, op := Go.Op.move (Go.Operand.tmp 0), type := 87, pos := "l17_text.go:91", after := #[], guard := none }) (v := ?_) rfl (by kernel_rfl) (by kernel_rfl) (by kernel_rfl) (fun _ _ _ h => h) (Or.inl ⟨by rfl, ?_⟩) (by assumption) ?_
      rotate_left
      · intro w hSw
        (try dsimp only at hSw)
        go_simp
        (try with_reducible rfl)
      try simp only [Act.put, List.setIfInBounds_toArray, List.set_cons_zero, List.set_cons_succ]
      refine wpAnyH_take (i := 3) (oi := { dst := some 50, op := Go.Op.nilCheck (Go.Operand.tmp 49), type := 0, pos := "l17_text.go:91", after := #[{ on := 2, ground := Go.Ground.data }], guard := none }) (v := ?_) rfl (by kernel_rfl) (by kernel_rfl) (by kernel_rfl) (fun _ _ _ h => h) (Or.inl ⟨by rfl, ?_⟩) (by assumption) ?_
      rotate_left
      · intro w hSw
        (try dsimp only at hSw)
        go_simp
        (try with_reducible rfl)
      try simp only [Act.put, List.setIfInBounds_toArray, List.set_cons_zero, List.set_cons_succ]
      refine wpAnyH_take (i := 4) (oi := { dst := some 51, op := Go.Op.fieldAddr 36 (Go.Operand.tmp 50) 4, type := 0, pos := "l17_text.go:91", after := #[{ on := 3, ground := Go.Ground.data }], guard := none }) (v := ?_) rfl (by kernel_rfl) (by kernel_rfl) (by kernel_rfl) (fun _ _ _ h => h) (Or.inl ⟨by rfl, ?_⟩) (by assumption) ?_
      rotate_left
      · intro w hSw
        (try dsimp only at hSw)
        go_simp
        (try with_reducible rfl)
      try simp only [Act.put, List.setIfInBounds_toArray, List.set_cons_zero, List.set_cons_succ]
      refine wpAnyH_take (i := 5) (oi := { dst := some 52, op := Go.Op.build 91 #[(0, Go.Operand.tmp 48), (1, Go.Operand.tmp 51)], type := 91, pos := "l17_text.go:91", after := #[{ on := 1, ground := Go.Ground.data }, { on := 4, ground := Go.Ground.data }], guard := none }) (v := ?_) rfl (by kernel_rfl) (by kernel_rfl) (by kernel_rfl) (fun _ _ _ h => h) (Or.inl ⟨by rfl, ?_⟩) (by assumption) ?_
      rotate_left
      · intro w hSw
        (try dsimp only at hSw)
        go_simp
        (try with_reducible rfl)
      try simp only [Act.put, List.setIfInBounds_toArray, List.set_cons_zero, List.set_cons_succ]
      refine wpAnyH_take (i := 6) (oi := { dst := some 53, op := Go.Op.fieldAddr 108 (Go.Operand.tmp 3) 1, type := 0, pos := "l17_text.go:91", after := #[], guard := none }) (v := ?_) rfl (by kernel_rfl) (by kernel_rfl) (by kernel_rfl) (fun _ _ _ h => h) (Or.inl ⟨by rfl, ?_⟩) (by assumption) ?_
      rotate_left
      · intro w hSw
        (try dsimp only at hSw)
        go_simp
        (try with_reducible rfl)
      try simp only [Act.put, List.setIfInBounds_toArray, List.set_cons_zero, List.set_cons_succ]
      refine wpAnyH_take (i := 7) (oi := { dst := some 54, op := Go.Op.load 88 (Go.Operand.tmp 53), type := 88, pos := "l17_text.go:91", after := #[{ on := 6, ground := Go.Ground.data }], guard := none }) (v := ?_) rfl (by kernel_rfl) (by kernel_rfl) (by kernel_rfl) (fun _ _ _ h => h) (Or.inl ⟨by rfl, ?_⟩) (by assumption) ?_
      rotate_left
      · intro w hSw
        (try dsimp only at hSw)
        go_simp
        (try with_reducible rfl)
      try simp only [Act.put, List.setIfInBounds_toArray, List.set_cons_zero, List.set_cons_succ]
      refine wpAnyH_take (i := 8) (oi := { dst := some 55, op := Go.Op.move (Go.Operand.tmp 0), type := 87, pos := "l17_text.go:91", after := #[], guard := none }) (v := ?_) rfl (by kernel_rfl) (by kernel_rfl) (by kernel_rfl) (fun _ _ _ h => h) (Or.inl ⟨by rfl, ?_⟩) (by assumption) ?_
      rotate_left
      · intro w hSw
        (try dsimp only at hSw)
        go_simp
        (try with_reducible rfl)
      try simp only [Act.put, List.setIfInBounds_toArray, List.set_cons_zero, List.set_cons_succ]
      refine wpAnyH_take (i := 9) (oi := { dst := some 56, op := Go.Op.nilCheck (Go.Operand.tmp 55), type := 0, pos := "l17_text.go:91", after := #[{ on := 8, ground := Go.Ground.data }], guard := none }) (v := ?_) rfl (by kernel_rfl) (by kernel_rfl) (by kernel_rfl) (fun _ _ _ h => h) (Or.inl ⟨by rfl, ?_⟩) (by assumption) ?_
      rotate_left
      · intro w hSw
        (try dsimp only at hSw)
        go_simp
        (try with_reducible rfl)
      try simp only [Act.put, List.setIfInBounds_toArray, List.set_cons_zero, List.set_cons_succ]
      refine wpAnyH_take (i := 10) (oi := { dst := some 57, op := Go.Op.fieldAddr 36 (Go.Operand.tmp 56) 2, type := 0, pos := "l17_text.go:91", after := #[{ on := 9, ground := Go.Ground.data }], guard := none }) (v := ?_) rfl (by kernel_rfl) (by kernel_rfl) (by kernel_rfl) (fun _ _ _ h => h) (Or.inl ⟨by rfl, ?_⟩) (by assumption) ?_
      rotate_left
      · intro w hSw
        (try dsimp only at hSw)
        go_simp
        (try with_reducible rfl)
      try simp only [Act.put, List.setIfInBounds_toArray, List.set_cons_zero, List.set_cons_succ]
      refine wpAnyH_take (i := 11) (oi := { dst := some 58, op := Go.Op.build 91 #[(0, Go.Operand.tmp 54), (1, Go.Operand.tmp 57)], type := 91, pos := "l17_text.go:91", after := #[{ on := 7, ground := Go.Ground.data }, { on := 10, ground := Go.Ground.data }], guard := none }) (v := ?_) rfl (by kernel_rfl) (by kernel_rfl) (by kernel_rfl) (fun _ _ _ h => h) (Or.inl ⟨by rfl, ?_⟩) (by assumption) ?_
      rotate_left
      · intro w hSw
        (try dsimp only at hSw)
        go_simp
        (try with_reducible rfl)
      try simp only [Act.put, List.setIfInBounds_toArray, List.set_cons_zero, List.set_cons_succ]
      refine ckAnyH_oneK (i := 12) (o := { dst := some 59, op := Go.Op.buildSlice 85 2 #[(0, Go.Operand.tmp 52), (1, Go.Operand.tmp 58)], type := 85, pos := "l17_text.go:91", after := #[{ on := 5, ground := Go.Ground.data }, { on := 11, ground := Go.Ground.data }], guard := none }) rfl rfl (by kernel_rfl) (fun K9 hK9 => ?_)
      go_simp
      have hal : Below u3.heap.size u3 (u3.alloc (.cells #[.int .i64 f3, .pointer (some ⟨X, 4, none⟩), .int .i64 f1, .pointer (some ⟨X, 2, none⟩)] 91)) := Bel.alloc _ _
      have HA4 : Hid (AllAt (u3.alloc (.cells #[.int .i64 f3, .pointer (some ⟨X, 4, none⟩), .int .i64 f1, .pointer (some ⟨X, 2, none⟩)] 91)) u3.heap.size X [(f3, 4), (f1, 2)]) := World.alloc_heap_new _ _
      obtain ⟨u4, hu4⟩ : ∃ W, u3.alloc (.cells #[.int .i64 f3, .pointer (some ⟨X, 4, none⟩), .int .i64 f1, .pointer (some ⟨X, 2, none⟩)] 91) = W := ⟨_, rfl⟩
      rw [hu4] at hal HA4 ⊢
      refine hK9 _ _ ⟨⟨Bel.keeps hal hHeld.1, Bel.keeps hal hHeld.2.1, Bel.keeps hal hHeld.2.2.1, Bel.keeps hal hHeld.2.2.2⟩, ?_⟩
      try simp only [Act.put, List.setIfInBounds_toArray, List.set_cons_zero, List.set_cons_succ]
      have hHeld2 : u4.cell? ⟨B1, 0, none⟩ = some (.int .i64 f0) ∧ u4.cell? ⟨B1, 1, none⟩ = some (.int .i64 f1) ∧ u4.cell? ⟨B1, 2, none⟩ = some (.int .i64 f2) ∧ u4.cell? ⟨B1, 3, none⟩ = some (.int .i64 f3) := ⟨Bel.keeps hal hHeld.1, Bel.keeps hal hHeld.2.1, Bel.keeps hal hHeld.2.2.1, Bel.keeps hal hHeld.2.2.2⟩
      have HB4 : Hid (Below w.heap.size w u4) := Bel.after HBd3.out hal
      clear hK9 hHeld hal hu4
      have hHeld := hHeld2
      refine wpAnyH_take (i := 13) (oi := { dst := some 5, op := Go.Op.assign (Go.Operand.tmp 59), type := 85, pos := "l17_text.go:91", after := #[{ on := 12, ground := Go.Ground.data }, { on := 0, ground := Go.Ground.phase }, { on := 1, ground := Go.Ground.phase }, { on := 2, ground := Go.Ground.phase }, { on := 3, ground := Go.Ground.phase }, { on := 4, ground := Go.Ground.phase }, { on := 5, ground := Go.Ground.phase }, { on := 6, ground := Go.Ground.phase }, { on := 7, ground := Go.Ground.phase }, { on := 8, ground := Go.Ground.phase }, { on := 9, ground := Go.Ground.phase }, { on := 10, ground := Go.Ground.phase }, { on := 11, ground := Go.Ground.phase }, { on := 12, ground := Go.Ground.phase }], guard := none }) (v := ?_) rfl (by kernel_rfl) (by kernel_rfl) (by kernel_rfl) (fun _ _ _ h => h) (Or.inl ⟨by rfl, ?_⟩) (by assumption) ?_
      rotate_left
      · intro w hSw
        (try dsimp only at hSw)
        go_simp
        (try with_reducible rfl)
      try simp only [Act.put, List.setIfInBounds_toArray, List.set_cons_zero, List.set_cons_succ]
      refine wpAnyH_done (by kernel_rfl) ?_ _
      simp only [Exit.then]
      rename_i hKm hJm h4m
      refine hKm _ _ ?_
      go_meet
      exact ⟨u3.heap.size, 2, rfl, by unfold allK; rw [if_pos rfl]; rfl, by unfold allK; rw [if_pos rfl, HF.out]; exact HA4.out, HB4.out⟩
    · go_wp2
      go_meet
      exact ⟨AL, 4, rfl, by unfold allK; rw [if_neg h4]; rfl, by unfold allK; rw [if_neg h4, HF.out]; exact HA2.out, HB2.out⟩
  case rest =>
    obtain ⟨A, m, rfl, hm, ha, hb⟩ := hcut
    have HM : Hid ((allK op).length = m) := hm
    have HA : Hid (AllAt wc A X (allK op)) := ha
    have HB5 : Hid (Below w.heap.size w wc) := hb
    have HLA : Hid (A < wc.heap.size) := (Array.getElem?_eq_some_iff.1 ha).1
    have hm4 : m ≤ 4 := by rw [← hm]; unfold allK; split <;> simp
    clear hm ha hb g0 g1 g2 g3 hx2
    obtain ⟨w6, hw6⟩ : ∃ W, wc.alloc (.cells #[] 91) = W := ⟨_, rfl⟩
    have HN6 : Hid (OwnFlds w6 wc.heap.size (.slice (some ⟨wc.heap.size, 0, none⟩) 0 0) X []) := by show OwnFlds _ _ _ _ _; rw [← hw6]; exact ownFlds_new (World.alloc_heap_new wc _) (Nat.le_refl _)
    have HB6 : Hid (Below wc.heap.size wc w6) := by show Below _ _ _; rw [← hw6]; exact Bel.alloc _ _
    go_wp2_with fail
    try rw [hw6]
    clear hw6
    obtain ⟨S0, HS0⟩ : ∃ S, Hid (wc.heap.size = S) := ⟨_, rfl⟩
    rw [HS0.out] at HN6 ⊢
    go_loopw [6, 63] (fun nv iv wr => ∃ (k : Nat) (va : Option Addr) (vn vc : Nat), k ≤ m ∧ iv = .int .i64 k ∧ nv = .slice va vn vc ∧ OwnFlds wr S0 (.slice va vn vc) X (((allK op).take k).filter (fun q => decide (q.1 ≠ 0))) ∧ Below S0 wc wr) (fun _ iv _ => m - (intOf iv).toNat)
    case atStart => exact ⟨0, _, _, _, Nat.zero_le _, rfl, rfl, HN6.out, by rw [← HS0.out]; exact HB6.out⟩
    case round =>
      obtain ⟨k, va, vn, vc, hk, rfl, rfl, hn, hbr⟩ := hrel
      have HN : Hid (OwnFlds wr S0 (.slice va vn vc) X (((allK op).take k).filter (fun q => decide (q.1 ≠ 0)))) := hn
      have HBR : Hid (Below S0 wc wr) := hbr
      have HSZ : Hid (S0 ≤ wr.heap.size) := by have := hbr.size; have := HS0.out; show _ ≤ _; omega
      clear hn hbr
      by_cases hlt : (k : Int) < (m : Int)
      · obtain ⟨q, HQ⟩ : ∃ q, Hid ((allK op)[k]? = some q) := ⟨(allK op)[k]'(by have := HM.out; omega), List.getElem?_eq_getElem _⟩
        obtain ⟨p, kk⟩ := q
        obtain ⟨q0, q1⟩ := HA.out.cell HQ.out
        dsimp only at q0 q1
        replace q0 := (HBR.out.cell (p := ⟨A, k * 2, none⟩) (by have := HLA.out; have := HS0.out; show A < S0; omega)).trans q0
        replace q1 := (HBR.out.cell (p := ⟨A, k * 2 + 1, none⟩) (by have := HLA.out; have := HS0.out; show A < S0; omega)).trans q1
        have HTK : Hid ((allK op).take (k + 1) = (allK op).take k ++ [(p, kk)]) := by
          show _ = _
          rw [List.take_add_one, HQ.out]
          rfl
        by_cases hp : p = 0
        · go_wp2_with fail
          go_roundw
          case rel => exact ⟨k + 1, va, vn, vc, by omega, by go_num, rfl, by rw [HTK.out, List.filter_append]; simpa [hp] using HN.out.keep (Bel.alloc _ _), HBR.out.trans ((Bel.alloc wr _).mono HSZ.out)⟩
          case measure => simp [intOf]; omega
        · obtain ⟨L1, HL1⟩ : ∃ L, Hid (((allK op).take k).filter (fun q => decide (q.1 ≠ 0)) = L) := ⟨_, rfl⟩
          rw [HL1.out] at HN
          obtain ⟨i0, hi, hz0, hz1, hz2⟩ := info_parts info_field
          obtain ⟨wa, hwa⟩ : ∃ W, wr.alloc (.cells #[.int .i64 p, .pointer (some ⟨X, kk, none⟩)] 91) = W := ⟨_, rfl⟩
          have HNa : Hid (OwnFlds wa S0 (.slice va vn vc) X L1) := by show OwnFlds _ _ _ _ _; rw [← hwa]; exact HN.out.keep (Bel.alloc _ _)
          have HBa : Hid (Below S0 wc wa) := by show Below _ _ _; rw [← hwa]; exact HBR.out.trans ((Bel.alloc wr _).mono HSZ.out)
          have HSa : Hid (S0 ≤ wa.heap.size) := by show _ ≤ _; rw [← hwa]; have := HSZ.out; simp; omega
          have hxa : wa.heap[wr.heap.size]? = some (.cells #[.int .i64 p, .pointer (some ⟨X, kk, none⟩)] 91 (0, 0)) := by rw [← hwa]; exact World.alloc_heap_new _ _
          have y0 : wa.cell? ⟨wr.heap.size, 0, none⟩ = some (.int .i64 p) := by simp [World.cell?, hxa]
          have y1 : wa.cell? ⟨wr.heap.size, 1, none⟩ = some (.pointer (some ⟨X, kk, none⟩)) := by simp [World.cell?, hxa]
          have hl4 : L1.length ≤ 4 := by rw [← HL1.out]; exact Nat.le_trans (List.length_filter_le _ _) (by rw [List.length_take]; omega)
          have hvn : vn = L1.length := by obtain ⟨a9, c9, e9, _⟩ := HN.out.row; simp at e9; exact e9.2.1
          clear hxa
          go_wp2_with (at_builtin; (try rw [hwa]); refine wpList_append_own _ rfl _ _ 85 rfl S0 91 i0 (.agg #[.int .i64 0, .pointer none]) 2 16 Tryz.underlying85 hi hz0 hz1 hz2 rfl (by decide) _ L1.length (fldC X L1) rfl (World.ownsRow.alloc HNa.out _) ⟨wa.heap.size, 0, none⟩ 1 1 [.int .i64 p, .pointer (some ⟨X, kk, none⟩)] rfl rfl (cells_two wa _ _ _) (by simp [Value.oneCell']) (by have : maxLen = 9223372036854775807 := rfl; omega) (by omega) (by have := HSa.out; simp; omega) ?_; intro v' wb hown' hgrow hnil; have HO' : Hid (OwnFlds wb S0 v' X (L1 ++ [(p, kk)])) := OwnFlds.next rfl hown'; have HG : Hid (Below S0 (wa.alloc _) wb) := ownsRow_underF (World.ownsRow.alloc HNa.out _) (by have := HSa.out; simp; omega) hgrow; clear hown' hgrow hnil)
          go_roundw
          case rel =>
            obtain ⟨va', vc', hv'⟩ : ∃ a c, v' = .slice a (L1 ++ [(p, kk)]).length c := by obtain ⟨a9, c9, e9, _⟩ := HO'.out.row; exact ⟨a9, c9, e9⟩
            exact ⟨k + 1, va', _, vc', by omega, by go_num, hv', by rw [HTK.out, List.filter_append, HL1.out, ← hv']; simpa [hp] using HO'.out, HBa.out.trans ((Bel.alloc wa _).mono HSa.out) |>.trans HG.out⟩
          case measure => simp [intOf]; omega
      · have hkm : k = m := by omega
        subst hkm
        go_wp2
        go_ret
        refine ⟨_, rfl, ?_, HB5.out.trans (HBR.out.mono (by have := HB5.out.size; have := HS0.out; omega))⟩
        rw [← HK.out, kinds_all]
        have h9 := HN.out
        rw [List.take_of_length_le (by have := HM.out; omega)] at h9
        exact h9.low (by have := HB5.out.size; have := HS0.out; omega)
end Go.Proofs.YtjcocpdicogecaaGreatDoor
