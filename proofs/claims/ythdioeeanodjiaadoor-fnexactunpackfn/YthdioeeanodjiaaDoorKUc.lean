/- The model's reader: its state, and a number. Rows of the call's own that grow, whose parts name lists that lie elsewhere; what the model read of a list so far. -/
import Derived.Test.YthdioeeanodjiaaDoorUkImK
import Derived.Laws.OwnMore
import Derived.Maps.AppendAt
namespace Go.Proofs.YthdioeeanodjiaaDoor
open Go.ChangeShapes Go.WideShapes Go.ChangeAt Go.RowKit
set_option linter.unusedVariables false
set_option linter.unusedSimpArgs false

structure CurS (w : World) (X : Nat) (v : Value) (l : List UInt8) (p : Nat) (ok : Bool) : Prop where
  cx : w.heap[X]? = some (.cells #[v, .int .i64 (p : Int), .bool ok] 72 (0, 0))
  bs : BytesAt w v l
  vb : 0 < l.length → ∀ a n c, v = .slice (some a) n c → a.block ≠ X
  hp : p ≤ l.length
  hl : l.length ≤ 1048576
theorem CurS.turn {w w' : World} {X : Nat} {v : Value} {l : List UInt8} {p p' : Nat} {ok ok' : Bool} (h : CurS w X v l p ok) (hf : FrB X w w') (hx : w'.heap[X]? = some (.cells #[v, .int .i64 (p' : Int), .bool ok'] 72 (0, 0))) (hp : p' ≤ l.length) : CurS w' X v l p' ok' :=
  ⟨hx, h.bs.offX h.vb hf, h.vb, hp, h.hl⟩
theorem CurS.lt {w : World} {X : Nat} {v : Value} {l : List UInt8} {p : Nat} {ok : Bool} (h : CurS w X v l p ok) : X < w.heap.size := (Array.getElem?_eq_some_iff.1 h.cx).1
theorem CurS.below {w w' : World} {X : Nat} {v : Value} {l : List UInt8} {p : Nat} {ok : Bool} (h : CurS w X v l p ok) (hb : Below w.heap.size w w') : CurS w' X v l p ok :=
  h.turn (FrB.ofBelow hb) ((hb.block X h.lt).trans h.cx) h.hp
/-- A number was read by the model. -/
def GivesSn (w : World) (X : Nat) (v : Value) (l : List UInt8) (p : Nat) (ok : Bool) (e : Ending) (w' : World) : Prop :=
  ∃ (x : Int) (p' : Nat) (ok' : Bool), e = .returned (.int .i64 x) ∧ CurS w' X v l p' ok' ∧ FrB X w w' ∧ w'.heap.size = w.heap.size ∧ (∀ y ys, ok = true → On l p (y :: ys) → x = y ∧ ok' = true ∧ On l p' ys) ∧ p ≤ p' ∧ (ok' = true → ok = true ∧ p < p')

set_option maxRecDepth 100000 in
set_option maxHeartbeats 4000000 in
theorem snum_any {w : World} {X : Nat} {v : Value} {l : List UInt8} {p : Nat} {ok : Bool} (h : CurS w X v l p ok) :
    Calls Tryd.prog 35 #[.pointer (some ⟨X, 0, none⟩)] w fun e w' => GivesSn w X v l p ok e w' := by
  have HC : Hid (CurS w X v l p ok) := h
  have c0 : w.cell? ⟨X, 0, none⟩ = some v := by simp [World.cell?, h.cx]
  have c1 : w.cell? ⟨X, 1, none⟩ = some (.int .i64 (p : Int)) := by simp [World.cell?, h.cx]
  clear h
  go_enter Tryd.func35, Tryd.ntmps35
  go_wp2_with fail
  refine wp_noThrow (region_M 16 (fun w' => w'.cell? ⟨X, 0, none⟩ = some v ∧ w'.cell? ⟨X, 1, none⟩ = some (.int .i64 (p : Int))) (by kernel_rfl) ?_)
  have hHeld : w.drew.cell? ⟨X, 0, none⟩ = some v ∧ w.drew.cell? ⟨X, 1, none⟩ = some (.int .i64 (p : Int)) := ⟨by simpa using c0, by simpa using c1⟩
  have HFd : Hid (FrB X w w.drew) := FrB.ofBelow ((Below.refl _ _).drew)
  have HCd : Hid (CurS w.drew X v l p ok) := HC.out.below ((Below.refl _ _).drew)
  have HSd : Hid (w.drew.heap.size = w.heap.size) := by
    show _ = _
    simp
  clear c0 c1
  refine wpAnyM_take (i := 0) (oi := { dst := some 7, op := Go.Op.move (Go.Operand.tmp 0), type := 70, pos := "l19_pack.go:85", after := #[], guard := none }) (v := ?_) rfl (by kernel_rfl) (by kernel_rfl) (by kernel_rfl) (by kernel_rfl) (fun _ _ _ h => h) (Or.inl ⟨by rfl, ?_⟩) (by assumption) ?_
  rotate_left
  · intro w hSw
    (try dsimp only at hSw)
    go_simp
    (try with_reducible rfl)
  try simp only [Act.put, List.setIfInBounds_toArray, List.set_cons_zero, List.set_cons_succ]
  refine wpAnyM_take (i := 1) (oi := { dst := some 8, op := Go.Op.nilCheck (Go.Operand.tmp 7), type := 0, pos := "l19_pack.go:85", after := #[{ on := 0, ground := Go.Ground.data }], guard := none }) (v := ?_) rfl (by kernel_rfl) (by kernel_rfl) (by kernel_rfl) (by kernel_rfl) (fun _ _ _ h => h) (Or.inl ⟨by rfl, ?_⟩) (by assumption) ?_
  rotate_left
  · intro w hSw
    (try dsimp only at hSw)
    go_simp
    (try with_reducible rfl)
  try simp only [Act.put, List.setIfInBounds_toArray, List.set_cons_zero, List.set_cons_succ]
  refine wpAnyM_take (i := 2) (oi := { dst := some 9, op := Go.Op.fieldAddr 72 (Go.Operand.tmp 8) 0, type := 0, pos := "l19_pack.go:85", after := #[{ on := 1, ground := Go.Ground.data }], guard := none }) (v := ?_) rfl (by kernel_rfl) (by kernel_rfl) (by kernel_rfl) (by kernel_rfl) (fun _ _ _ h => h) (Or.inl ⟨by rfl, ?_⟩) (by assumption) ?_
  rotate_left
  · intro w hSw
    (try dsimp only at hSw)
    go_simp
    (try with_reducible rfl)
  try simp only [Act.put, List.setIfInBounds_toArray, List.set_cons_zero, List.set_cons_succ]
  refine wpAnyM_take (i := 3) (oi := { dst := some 10, op := Go.Op.load 22 (Go.Operand.tmp 9), type := 22, pos := "l19_pack.go:85", after := #[{ on := 2, ground := Go.Ground.data }], guard := none }) (v := ?_) rfl (by kernel_rfl) (by kernel_rfl) (by kernel_rfl) (by kernel_rfl) (fun _ _ _ h => h) (Or.inl ⟨by rfl, ?_⟩) (by assumption) ?_
  rotate_left
  · intro w hSw
    (try dsimp only at hSw)
    go_simp
    (try with_reducible rfl)
  try simp only [Act.put, List.setIfInBounds_toArray, List.set_cons_zero, List.set_cons_succ]
  refine wpAnyM_take (i := 4) (oi := { dst := some 11, op := Go.Op.move (Go.Operand.tmp 0), type := 70, pos := "l19_pack.go:85", after := #[], guard := none }) (v := ?_) rfl (by kernel_rfl) (by kernel_rfl) (by kernel_rfl) (by kernel_rfl) (fun _ _ _ h => h) (Or.inl ⟨by rfl, ?_⟩) (by assumption) ?_
  rotate_left
  · intro w hSw
    (try dsimp only at hSw)
    go_simp
    (try with_reducible rfl)
  try simp only [Act.put, List.setIfInBounds_toArray, List.set_cons_zero, List.set_cons_succ]
  refine wpAnyM_take (i := 5) (oi := { dst := some 12, op := Go.Op.nilCheck (Go.Operand.tmp 11), type := 0, pos := "l19_pack.go:85", after := #[{ on := 4, ground := Go.Ground.data }], guard := none }) (v := ?_) rfl (by kernel_rfl) (by kernel_rfl) (by kernel_rfl) (by kernel_rfl) (fun _ _ _ h => h) (Or.inl ⟨by rfl, ?_⟩) (by assumption) ?_
  rotate_left
  · intro w hSw
    (try dsimp only at hSw)
    go_simp
    (try with_reducible rfl)
  try simp only [Act.put, List.setIfInBounds_toArray, List.set_cons_zero, List.set_cons_succ]
  refine wpAnyM_take (i := 6) (oi := { dst := some 13, op := Go.Op.fieldAddr 72 (Go.Operand.tmp 12) 1, type := 0, pos := "l19_pack.go:85", after := #[{ on := 5, ground := Go.Ground.data }], guard := none }) (v := ?_) rfl (by kernel_rfl) (by kernel_rfl) (by kernel_rfl) (by kernel_rfl) (fun _ _ _ h => h) (Or.inl ⟨by rfl, ?_⟩) (by assumption) ?_
  rotate_left
  · intro w hSw
    (try dsimp only at hSw)
    go_simp
    (try with_reducible rfl)
  try simp only [Act.put, List.setIfInBounds_toArray, List.set_cons_zero, List.set_cons_succ]
  refine wpAnyM_take (i := 7) (oi := { dst := some 14, op := Go.Op.load 3 (Go.Operand.tmp 13), type := 3, pos := "l19_pack.go:85", after := #[{ on := 6, ground := Go.Ground.data }], guard := none }) (v := ?_) rfl (by kernel_rfl) (by kernel_rfl) (by kernel_rfl) (by kernel_rfl) (fun _ _ _ h => h) (Or.inl ⟨by rfl, ?_⟩) (by assumption) ?_
  rotate_left
  · intro w hSw
    (try dsimp only at hSw)
    go_simp
    (try with_reducible rfl)
  try simp only [Act.put, List.setIfInBounds_toArray, List.set_cons_zero, List.set_cons_succ]
  clear hHeld
  generalize w.drew = wD at HFd HCd HSd ⊢
  obtain ⟨⟨r1, r2, r3⟩, HU⟩ : ∃ r, Hid (unpackX l p = r) := ⟨_, rfl⟩
  refine cmAnyM_oneK (i := 8) (o := { dst := some 15, op := Go.Op.call { callee := Go.Callee.value (Go.Operand.func 61), args := #[Go.Operand.tmp 10, Go.Operand.tmp 14], argTypes := #[22, 3] }, type := 85, pos := "l19_pack.go:85", after := #[{ on := 3, ground := Go.Ground.data }, { on := 7, ground := Go.Ground.data }], guard := none }) rfl rfl (by kernel_rfl) (fun K9 hK9 => ?_)
  refine wp_call_of (f := 61) (args := #[v, .int .i64 (p : Int)]) (by go_simp) (spec_unpackNum _ l _ _ HCd.out.bs (by have := HCd.out.hl; omega) (by have := HCd.out.hl; have := HCd.out.hp; omega)) ?_
  rw [HU.out]
  rintro e w1 ⟨rfl, hw1⟩
  subst hw1
  have hHeld : w1.cell? ⟨X, 0, none⟩ = some v ∧ w1.cell? ⟨X, 1, none⟩ = some (.int .i64 (p : Int)) := ⟨by simp [World.cell?, HCd.out.cx], by simp [World.cell?, HCd.out.cx]⟩
  refine ⟨_, rfl, hK9 _ _ ⟨fun _ => hHeld, ?_⟩⟩
  (try simp only [Act.put, List.setIfInBounds_toArray, List.set_cons_zero, List.set_cons_succ])
  clear hK9
  refine wpAnyM_take (i := 9) (oi := { dst := some 6, op := Go.Op.move (Go.Operand.tmp 15), type := 85, pos := "l19_pack.go:85", after := #[{ on := 8, ground := Go.Ground.data }], guard := none }) (v := ?_) rfl (by kernel_rfl) (by kernel_rfl) (by kernel_rfl) (by kernel_rfl) (fun _ _ _ h => h) (Or.inl ⟨by rfl, ?_⟩) (by assumption) ?_
  rotate_left
  · intro w hSw
    (try dsimp only at hSw)
    go_simp
    (try with_reducible rfl)
  try simp only [Act.put, List.setIfInBounds_toArray, List.set_cons_zero, List.set_cons_succ]
  refine wpAnyM_take (i := 10) (oi := { dst := some 16, op := Go.Op.extract (Go.Operand.tmp 6) 0, type := 3, pos := "l19_pack.go:85", after := #[{ on := 9, ground := Go.Ground.data }], guard := none }) (v := ?_) rfl (by kernel_rfl) (by kernel_rfl) (by kernel_rfl) (by kernel_rfl) (fun _ _ _ h => h) (Or.inl ⟨by rfl, ?_⟩) (by assumption) ?_
  rotate_left
  · intro w hSw
    (try dsimp only at hSw)
    go_simp
    (try with_reducible rfl)
  try simp only [Act.put, List.setIfInBounds_toArray, List.set_cons_zero, List.set_cons_succ]
  refine wpAnyM_take (i := 11) (oi := { dst := some 17, op := Go.Op.extract (Go.Operand.tmp 6) 1, type := 3, pos := "l19_pack.go:85", after := #[{ on := 9, ground := Go.Ground.data }, { on := 13, ground := Go.Ground.gcOnly Go.Departure.lateStores }], guard := none }) (v := ?_) rfl (by kernel_rfl) (by kernel_rfl) (by kernel_rfl) (by kernel_rfl) (fun _ _ _ h => h) (Or.inl ⟨by rfl, ?_⟩) (by assumption) ?_
  rotate_left
  · intro w hSw
    (try dsimp only at hSw)
    go_simp
    (try with_reducible rfl)
  try simp only [Act.put, List.setIfInBounds_toArray, List.set_cons_zero, List.set_cons_succ]
  refine wpAnyM_take (i := 12) (oi := { dst := some 18, op := Go.Op.extract (Go.Operand.tmp 6) 2, type := 4, pos := "l19_pack.go:85", after := #[{ on := 9, ground := Go.Ground.data }, { on := 14, ground := Go.Ground.gcOnly Go.Departure.lateStores }], guard := none }) (v := ?_) rfl (by kernel_rfl) (by kernel_rfl) (by kernel_rfl) (by kernel_rfl) (fun _ _ _ h => h) (Or.inl ⟨by rfl, ?_⟩) (by assumption) ?_
  rotate_left
  · intro w hSw
    (try dsimp only at hSw)
    go_simp
    (try with_reducible rfl)
  try simp only [Act.put, List.setIfInBounds_toArray, List.set_cons_zero, List.set_cons_succ]
  refine wpAnyM_take (i := 13) (oi := { dst := some 3, op := Go.Op.assign (Go.Operand.tmp 16), type := 3, pos := "l19_pack.go:85", after := #[{ on := 10, ground := Go.Ground.data }, { on := 8, ground := Go.Ground.chain }, { on := 0, ground := Go.Ground.phase }, { on := 1, ground := Go.Ground.phase }, { on := 2, ground := Go.Ground.phase }, { on := 3, ground := Go.Ground.phase }, { on := 4, ground := Go.Ground.phase }, { on := 5, ground := Go.Ground.phase }, { on := 6, ground := Go.Ground.phase }, { on := 7, ground := Go.Ground.phase }, { on := 8, ground := Go.Ground.phase }, { on := 9, ground := Go.Ground.phase }, { on := 10, ground := Go.Ground.phase }, { on := 11, ground := Go.Ground.textOnly Go.Departure.lateStores }, { on := 12, ground := Go.Ground.textOnly Go.Departure.lateStores }], guard := none }) (v := ?_) rfl (by kernel_rfl) (by kernel_rfl) (by kernel_rfl) (by kernel_rfl) (fun _ _ _ h => h) (Or.inl ⟨by rfl, ?_⟩) (by assumption) ?_
  rotate_left
  · intro w hSw
    (try dsimp only at hSw)
    go_simp
    (try with_reducible rfl)
  try simp only [Act.put, List.setIfInBounds_toArray, List.set_cons_zero, List.set_cons_succ]
  refine wpAnyM_take (i := 14) (oi := { dst := some 4, op := Go.Op.assign (Go.Operand.tmp 17), type := 3, pos := "l19_pack.go:85", after := #[{ on := 11, ground := Go.Ground.data }, { on := 13, ground := Go.Ground.chain }, { on := 0, ground := Go.Ground.phase }, { on := 1, ground := Go.Ground.phase }, { on := 2, ground := Go.Ground.phase }, { on := 3, ground := Go.Ground.phase }, { on := 4, ground := Go.Ground.phase }, { on := 5, ground := Go.Ground.phase }, { on := 6, ground := Go.Ground.phase }, { on := 7, ground := Go.Ground.phase }, { on := 8, ground := Go.Ground.phase }, { on := 9, ground := Go.Ground.phase }, { on := 10, ground := Go.Ground.phase }, { on := 11, ground := Go.Ground.phase }, { on := 12, ground := Go.Ground.textOnly Go.Departure.lateStores }, { on := 13, ground := Go.Ground.phase }], guard := none }) (v := ?_) rfl (by kernel_rfl) (by kernel_rfl) (by kernel_rfl) (by kernel_rfl) (fun _ _ _ h => h) (Or.inl ⟨by rfl, ?_⟩) (by assumption) ?_
  rotate_left
  · intro w hSw
    (try dsimp only at hSw)
    go_simp
    (try with_reducible rfl)
  try simp only [Act.put, List.setIfInBounds_toArray, List.set_cons_zero, List.set_cons_succ]
  refine wpAnyM_take (i := 15) (oi := { dst := some 5, op := Go.Op.assign (Go.Operand.tmp 18), type := 4, pos := "l19_pack.go:85", after := #[{ on := 12, ground := Go.Ground.data }, { on := 14, ground := Go.Ground.chain }, { on := 0, ground := Go.Ground.phase }, { on := 1, ground := Go.Ground.phase }, { on := 2, ground := Go.Ground.phase }, { on := 3, ground := Go.Ground.phase }, { on := 4, ground := Go.Ground.phase }, { on := 5, ground := Go.Ground.phase }, { on := 6, ground := Go.Ground.phase }, { on := 7, ground := Go.Ground.phase }, { on := 8, ground := Go.Ground.phase }, { on := 9, ground := Go.Ground.phase }, { on := 10, ground := Go.Ground.phase }, { on := 11, ground := Go.Ground.phase }, { on := 12, ground := Go.Ground.phase }, { on := 13, ground := Go.Ground.phase }, { on := 14, ground := Go.Ground.phase }], guard := none }) (v := ?_) rfl (by kernel_rfl) (by kernel_rfl) (by kernel_rfl) (by kernel_rfl) (fun _ _ _ h => h) (Or.inl ⟨by rfl, ?_⟩) (by assumption) ?_
  rotate_left
  · intro w hSw
    (try dsimp only at hSw)
    go_simp
    (try with_reducible rfl)
  try simp only [Act.put, List.setIfInBounds_toArray, List.set_cons_zero, List.set_cons_succ]
  clear hHeld
  refine wpAnyM_done (by kernel_rfl) ?_ _
  simp only [noThrow, Exit.then]
  have d1 : w1.cell? ⟨X, 1, none⟩ = some (.int .i64 (p : Int)) := by simp [World.cell?, HCd.out.cx]
  have d2 : w1.cell? ⟨X, 2, none⟩ = some (.bool ok) := by simp [World.cell?, HCd.out.cx]
  have dz : ∀ j, w1.frozen? ⟨X, j, none⟩ = false := fun j => by simp [World.frozen?, HCd.out.cx]
  have HF2 : ∀ (o : Nat) (u : Value), FrB X w (w1.setCell ⟨X, o, none⟩ u) := fun o u => HFd.out.setCell _ _
  have HF2 : Hid (∀ (o : Nat) (u : Value), FrB X w (w1.setCell ⟨X, o, none⟩ u)) := HF2
  have HBAD : Hid ((r3 = false ∨ ok = false) → GivesSn w X v l p ok (.returned (.int .i64 0)) (w1.setCell ⟨X, 2, none⟩ (.bool false))) := fun hbad => by
    refine ⟨0, p, false, rfl, HC.out.turn (HF2.out _ _) (by simp [World.setCell, Array.getElem?_modify, HCd.out.cx]) HC.out.hp, HF2.out _ _, by simp [HSd.out], fun y ys hok ho => ?_, Nat.le_refl _, fun h => by cases h⟩
    obtain ⟨q, hu, _⟩ := ho.next
    rw [HU.out] at hu
    simp at hu
    rcases hbad with h | h
    · rw [h] at hu; simp at hu
    · rw [h] at hok; cases hok
  cases r3 with
  | false =>
    clear d1
    go_at_K
    go_wp2_with fail
    go_ret
    exact HBAD.out (.inl trivial)
  | true =>
    cases ok with
    | false =>
      clear d1
      go_at_K
      go_wp2_with fail
      go_ret
      exact HBAD.out (.inr trivial)
    | true =>
      obtain ⟨b, HQ, hpb, hbl, _⟩ := unpackX_reach HU.out
      have HQ2 : Hid (r2 = (b : Int)) := HQ
      have HBL : Hid (b ≤ l.length ∧ p < b) := ⟨hbl, by omega⟩
      clear HQ hpb hbl
      go_at_K
      go_wp2_with fail
      go_ret
      have hb2 := HQ2.out
      subst hb2
      refine ⟨r1, b, true, rfl, HC.out.turn (HF2.out _ _) (by simp [World.setCell, Array.getElem?_modify, HCd.out.cx]) HBL.out.1, HF2.out _ _, by simp [HSd.out], fun y ys hok ho => ?_, by have := HBL.out.2; omega, fun _ => ⟨rfl, HBL.out.2⟩⟩
      obtain ⟨q, hu, ho2, _⟩ := ho.next
      rw [HU.out] at hu
      simp at hu
      obtain ⟨rfl, h9⟩ := hu
      have h8 : q = b := by omega
      subst h8
      exact ⟨rfl, rfl, ho2⟩
end Go.Proofs.YthdioeeanodjiaaDoor

namespace Go.Proofs.YthdioeeanodjiaaDoor
open Go.ChangeShapes Go.WideShapes Go.ChangeAt Go.RowKit
set_option linter.unusedVariables false
set_option linter.unusedSimpArgs false

/-- What lay there stays, but for the boxes K and the row ob. -/
def KeepK (lo : Nat) (K : Nat → Prop) (ob : Option Nat) (w w' : World) : Prop := w.heap.size ≤ w'.heap.size ∧ ∀ b, lo ≤ b → b < w.heap.size → ¬ K b → some b ≠ ob → w'.heap[b]? = w.heap[b]?
def RowK {α : Type} (T : TypeId) (k : Nat) (G : World → List Value → α → Prop) (w : World) (lo : Nat) (K : Nat → Prop) (v : Value) (l : List α) : Prop :=
  ∃ xs, w.ownsRow lo T k v l.length xs ∧ (∀ g, v.ownBlock = some g → ¬ K g) ∧ ∀ i x, l[i]? = some x → ∀ w2, KeepK lo K v.ownBlock w w2 → G w2 ((xs.drop (i * k)).take k) x
theorem RowK.empty {α : Type} {T : TypeId} {k : Nat} {G : World → List Value → α → Prop} (w : World) (lo : Nat) (K : Nat → Prop) : RowK T k G w lo K (.slice none 0 0) [] :=
  ⟨[], ⟨by simp, .inl ⟨rfl, rfl⟩⟩, fun g h => by simp [Value.ownBlock] at h, fun i x hx => by simp at hx⟩
theorem RowK.keep {α : Type} {T : TypeId} {k : Nat} {G : World → List Value → α → Prop} {w w' : World} {lo : Nat} {K : Nat → Prop} {v : Value} {l : List α} (h : RowK T k G w lo K v l) (hb : ∀ b, lo ≤ b → b < w.heap.size → ¬ K b → w'.heap[b]? = w.heap[b]?) (hs : w.heap.size ≤ w'.heap.size) : RowK T k G w' lo K v l := by
  obtain ⟨xs, h1, h2, h3⟩ := h
  refine ⟨xs, ⟨h1.1, ?_⟩, h2, fun i x hx w2 hk => h3 i x hx w2 ⟨Nat.le_trans hs hk.1, fun b a0 a1 a2 a3 => (hk.2 b a0 (by omega) a2 a3).trans (hb b a0 a1 a2)⟩⟩
  rcases h1.2 with ha | ⟨g, cap, cur, rfl, hlo, hg, hr⟩
  · exact .inl ha
  · refine .inr ⟨g, cap, cur, rfl, hlo, ?_, hr⟩
    rw [hb g hlo (Array.getElem?_eq_some_iff.1 hg).1 (h2 g rfl)]
    exact hg
theorem RowK.lt {α : Type} {T : TypeId} {k : Nat} {G : World → List Value → α → Prop} {w : World} {lo : Nat} {K : Nat → Prop} {v : Value} {l : List α} (h : RowK T k G w lo K v l) : ∀ g, v.ownBlock = some g → lo ≤ g ∧ g < w.heap.size := by
  obtain ⟨xs, h1, _⟩ := h
  exact h1.lt
theorem RowK.form {α : Type} {T : TypeId} {k : Nat} {G : World → List Value → α → Prop} {w : World} {lo : Nat} {K : Nat → Prop} {v : Value} {l : List α} (h : RowK T k G w lo K v l) : ∃ a cap, v = .slice a l.length cap := by
  obtain ⟨xs, h1, _⟩ := h
  rcases h1.2 with ⟨e, h0⟩ | ⟨g, cap, cur, e, _⟩
  · exact ⟨none, 0, by rw [e, h0]⟩
  · exact ⟨_, cap, e⟩
/-- One part is appended: it lies in a new block a. -/
theorem RowK.push {α : Type} {T t : TypeId} {k bytes : Nat} {z : Value} {G : World → List Value → α → Prop} {w : World} {lo : Nat} {K : Nat → Prop} {v : Value} {l : List α} (h : RowK T k G w lo K v l)
    (ht : Tryd.prog.underlying t = some (.slice T)) (hinfo : (Tryd.prog.info? T).map (fun i => (i.zero, i.size, i.bytes)) = some (some z, k, bytes)) (hz : z.cells.size = k) (hk : 0 < k) (hby : bytes ≤ 100)
    (hl : l.length ≤ 1100000) (hlo : lo ≤ w.heap.size) (hKs : ∀ b, K b → b < w.heap.size) (a : Addr) (news : List Value) (hn : news.length = k) (hnews : ∀ j u, news[j]? = some u → w.cell? (a.add j) = some u) (h1 : ∀ u ∈ news, u.oneCell' = true) (x : α) (hG : ∀ w2, KeepK lo K v.ownBlock w w2 → G w2 news x) :
    ∃ v' w', (∀ ty' : TypeId, (Builtin.append_ #[t, t] ty' #[v, .slice (some a) 1 1]).run Tryd.prog w = .ok v' w') ∧ RowK T k G w' lo K v' (l ++ [x]) ∧ w.grownBy w' v.ownBlock := by
  obtain ⟨xs, hown, h2, h3⟩ := h
  obtain ⟨i, hi, hzz⟩ := Option.map_eq_some_iff.1 hinfo
  simp only [Prod.mk.injEq] at hzz
  obtain ⟨hz0, hz1, hz2⟩ := hzz
  have hmx : 2000000 ≤ maxLen := by decide
  have h9 : (l.length + 1) * bytes ≤ 1100001 * 100 := Nat.mul_le_mul (by omega) hby
  obtain ⟨v', w', hrun, hown', hg, _, ho⟩ := run_append_own_at (P := Tryd.prog) w lo t t T i z k bytes ht hi hz0 hz1 hz2 hz hk v l.length xs hown a 1 1 news (by omega) hnews h1 (by omega) (by omega) hlo
  refine ⟨v', w', fun _ => hrun, ⟨xs ++ news, by simpa using hown', fun g hg' => ?_, fun j y hy w2 hk2 => ?_⟩, hg⟩
  · rcases ho with e | e
    · exact h2 g (by rw [← e]; exact hg')
    · rw [e] at hg'
      simp at hg'
      intro hK
      have := hKs g hK
      omega
  · have hkk : KeepK lo K v.ownBlock w w2 := ⟨Nat.le_trans hg.size hk2.1, fun b a0 a1 a2 a3 => by
      rw [hk2.2 b a0 (Nat.lt_of_lt_of_le a1 hg.size) a2 (by
        rcases ho with e | e
        · rw [e]; exact a3
        · rw [e]
          intro e2
          simp at e2
          omega)]
      exact hg.block b a1 a3⟩
    have hlen : xs.length = l.length * k := hown.1
    by_cases hj : j < l.length
    · rw [List.getElem?_append_left hj] at hy
      have e : ((xs ++ news).drop (j * k)).take k = (xs.drop (j * k)).take k := by
        have hle : j * k + k ≤ xs.length := by
          rw [hlen, ← Nat.succ_mul]
          exact Nat.mul_le_mul_right k hj
        rw [List.drop_append_of_le_length (by omega), List.take_append_of_le_length (by rw [List.length_drop]; omega)]
      rw [e]
      exact h3 j y hy w2 hkk
    · rw [List.getElem?_append_right (by omega)] at hy
      have hi0 : j - l.length = 0 := by
        rcases Nat.eq_zero_or_pos (j - l.length) with h | h
        · exact h
        · rw [List.getElem?_eq_none (by simp; omega)] at hy
          cases hy
      rw [hi0] at hy
      simp at hy
      subst hy
      have hil : j = l.length := by omega
      subst hil
      have e : ((xs ++ news).drop (l.length * k)).take k = news := by
        rw [← hlen, List.drop_left, List.take_of_length_le (by omega)]
      rw [e]
      exact hG w2 hkk
/-- It reads as a list. -/
theorem RowK.read {α : Type} {T : TypeId} {k : Nat} {G : World → List Value → α → Prop} {w : World} {lo : Nat} {K : Nat → Prop} {v : Value} {l : List α} (h : RowK T k G w lo K v l) (hm : l.length ≤ 9223372036854775807) {E : World → Nat → Nat → α → Prop}
    (hE : ∀ (g i : Nat) (x : α) (ys : List Value), G w ys x → (∀ j u, ys[j]? = some u → w.cell? ⟨g, i + j, none⟩ = some u) → E w g i x) : ListAt lo k E w v l := by
  obtain ⟨xs, h1, h2, h3⟩ := h
  rcases h1.2 with ⟨hv, h0⟩ | ⟨g, cap, cur, hv, hlo, hg, hr⟩
  · exact ⟨Option.none, 0, by rw [hv, h0], hm, fun hp => absurd hp (by omega)⟩
  · refine ⟨some ⟨g, 0, Option.none⟩, cap, hv, hm, fun hp => ⟨g, 0, rfl, hlo, fun i x hx => hE g _ x _ (h3 i x hx w ⟨Nat.le_refl _, fun _ _ _ _ _ => rfl⟩) (fun j u hu => ?_)⟩⟩
    have hj : j < k := by
      have := (List.getElem?_eq_some_iff.1 hu).1
      rw [List.length_take] at this
      omega
    rw [List.getElem?_take_of_lt hj, List.getElem?_drop] at hu
    have hc := h1.cells (g := g) (by rw [hv]; rfl) _ _ hu
    rw [Addr.add_mid] at hc
    rw [Nat.add_assoc]
    exact hc
/-- A row whose parts name nothing: it reads alike wherever its block is as it was. -/
theorem RowK.move {α : Type} {T : TypeId} {k : Nat} {G : World → List Value → α → Prop} {w w2 : World} {lo : Nat} {K : Nat → Prop} {v : Value} {l : List α} (h : RowK T k G w lo K v l) (hG : ∀ w' ys x, G w ys x → G w' ys x) (hs : ∀ g, v.ownBlock = some g → w2.heap[g]? = w.heap[g]?) : RowK T k G w2 lo K v l := by
  obtain ⟨xs, h1, h2, h3⟩ := h
  refine ⟨xs, ⟨h1.1, ?_⟩, h2, fun i x hx w3 _ => hG _ _ _ (h3 i x hx w ⟨Nat.le_refl _, fun _ _ _ _ _ => rfl⟩)⟩
  rcases h1.2 with ha | ⟨g, cap, cur, rfl, hlo, hg, hr⟩
  · exact .inl ha
  · exact .inr ⟨g, cap, cur, rfl, hlo, (hs g rfl).trans hg, hr⟩
def GArm (w : World) (ys : List Value) (a : ArmD) : Prop := ys = armC a
def GIns (w : World) (ys : List Value) (x : InsD) : Prop := ys = insC x
def GPhi (w : World) (ys : List Value) (p : PhiD) : Prop := ∃ av, ys = [.int .i64 p.d, av] ∧ ListAt 0 2 ArmAt w av p.arms
def GBlk (w : World) (ys : List Value) (b : BlockD) : Prop := ∃ pv lv, ys = blockC pv lv b.term ∧ ListAt 0 2 (PhiAt 0) w pv b.phis ∧ ListAt 0 5 InsAt w lv b.list
theorem ListAt.zero {α : Type} {lo k : Nat} {E : World → Nat → Nat → α → Prop} {w : World} {v : Value} {l : List α} (h : ListAt lo k E w v l) : ListAt 0 k E w v l := by
  obtain ⟨a, cap, e, hm, hc⟩ := h
  refine ⟨a, cap, e, hm, fun hp => ?_⟩
  obtain ⟨b, off, e2, _, hd⟩ := hc hp
  exact ⟨b, off, e2, Nat.zero_le _, hd⟩
theorem arms_read {w w2 : World} {lo : Nat} {K : Nat → Prop} {v : Value} {l : List ArmD} (h : RowK 63 2 GArm w lo K v l) (hm : l.length ≤ 1100000) (hs : ∀ g, v.ownBlock = some g → w2.heap[g]? = w.heap[g]?) : ListAt 0 2 ArmAt w2 v l :=
  ((h.move (fun _ _ _ h => h) hs).read (by omega) (fun g i x ys hg hc => by
    rw [show ys = armC x from hg] at hc
    exact ⟨hc 0 _ rfl, hc 1 _ rfl⟩)).zero
theorem ins_read {w w2 : World} {lo : Nat} {K : Nat → Prop} {v : Value} {l : List InsD} (h : RowK 50 5 GIns w lo K v l) (hm : l.length ≤ 1100000) (hs : ∀ g, v.ownBlock = some g → w2.heap[g]? = w.heap[g]?) : ListAt 0 5 InsAt w2 v l :=
  ((h.move (fun _ _ _ h => h) hs).read (by omega) (fun g i x ys hg hc => by
    rw [show ys = insC x from hg] at hc
    exact ⟨hc 0 _ rfl, hc 1 _ rfl, hc 2 _ rfl, hc 3 _ rfl, hc 4 _ rfl⟩)).zero
theorem phis_read {w w2 : World} {lo : Nat} {K : Nat → Prop} {v : Value} {l : List PhiD} (h : RowK 61 2 GPhi w lo K v l) (hm : l.length ≤ 1100000) (hb : ∀ b, lo ≤ b → b < w.heap.size → ¬ K b → w2.heap[b]? = w.heap[b]?) (hs : w.heap.size ≤ w2.heap.size) : ListAt 0 2 (PhiAt 0) w2 v l :=
  ((h.keep hb hs).read (by omega) (fun g i x ys hg hc => by
    obtain ⟨av, rfl, ha⟩ := hg
    exact ⟨hc 0 _ rfl, av, hc 1 _ rfl, ha⟩)).zero
/-- What the model read of a list so far. -/
def SoFarS {α : Type} (N : α → List Int) (l : List UInt8) (p : Nat) (ok : Bool) (p' : Nat) (ok' : Bool) (n : Int) (cur : List α) : Prop :=
  ∀ (L : List α) ys, ok = true → On l p ((L.length : Int) :: (L.flatMap N ++ ys)) → n = (L.length : Int) ∧ ok' = true ∧ cur = L.take cur.length ∧ On l p' ((L.drop cur.length).flatMap N ++ ys)
theorem SoFarS.zero {α : Type} {N : α → List Int} {l : List UInt8} {p p1 : Nat} {ok ok1 : Bool} {n : Int} (h : ∀ y ys, ok = true → On l p (y :: ys) → n = y ∧ ok1 = true ∧ On l p1 ys) : SoFarS N l p ok p1 ok1 n [] := fun L ys h1 ho => by
  obtain ⟨e1, e2, o1⟩ := h _ _ h1 ho
  exact ⟨e1, e2, rfl, o1⟩
theorem SoFarS.step {α : Type} {N : α → List Int} {l : List UInt8} {p p1 p2 : Nat} {ok ok1 ok2 : Bool} {n : Int} {cur : List α} (h : SoFarS N l p ok p1 ok1 n cur) (hk : (cur.length : Int) < n) {y : α} (hg : ∀ y0 ys, ok1 = true → On l p1 (N y0 ++ ys) → y = y0 ∧ ok2 = true ∧ On l p2 ys) : SoFarS N l p ok p2 ok2 n (cur ++ [y]) := fun L ys h1 ho => by
  obtain ⟨e1, e2, e3, o1⟩ := h L ys h1 ho
  have hkL : cur.length < L.length := by omega
  rw [List.drop_eq_getElem_cons hkL, List.flatMap_cons, List.append_assoc] at o1
  obtain ⟨e4, e5, o2⟩ := hg (L[cur.length]) _ e2 o1
  refine ⟨e1, e5, ?_, by simpa using o2⟩
  rw [List.length_append, List.length_singleton, List.take_add_one, List.getElem?_eq_getElem hkL, e4]
  exact congrArg (· ++ [L[cur.length]]) e3
theorem SoFarS.whole {α : Type} {N : α → List Int} {l : List UInt8} {p p1 : Nat} {ok ok1 : Bool} {n : Int} {cur : List α} (h : SoFarS N l p ok p1 ok1 n cur) (he : ok1 = true → ¬ (cur.length : Int) < n) : ∀ (L : List α) ys, ok = true → On l p ((L.length : Int) :: (L.flatMap N ++ ys)) → cur = L ∧ ok1 = true ∧ On l p1 ys := fun L ys h1 ho => by
  obtain ⟨e1, e2, e3, o1⟩ := h L ys h1 ho
  have h9 := he e2
  have hle : L.length ≤ cur.length := by omega
  rw [List.take_of_length_le hle] at e3
  rw [List.drop_eq_nil_of_le hle] at o1
  exact ⟨e3, e2, o1⟩
end Go.Proofs.YthdioeeanodjiaaDoor
