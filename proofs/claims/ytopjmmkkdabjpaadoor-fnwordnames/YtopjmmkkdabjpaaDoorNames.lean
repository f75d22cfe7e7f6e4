/- The names of the ops, as the program's table and the model's list have them: for every op and every text the program's and the model's WordName and WordOf answer one and the same; neither turns anything that was there. -/
import Derived.Test.YtopjmmkkdabjpaaDoorRows
import Derived.WalkKit
import Derived.ProofKit
import Derived.OpenShut
import Derived.Below
namespace Go.Proofs.YtopjmmkkdabjpaaDoor
open Go.ChangeShapes Go.WideShapes Go.ChangeAt Go.RowKit
set_option linter.unusedVariables false

theorem toList_inj {a b : ByteArray} (h : a.toList = b.toList) : a = b := by
  rw [ByteArray.toList_eq, ByteArray.toList_eq] at h
  exact Go.WideShapes.bytes_inj h
theorem eq_yes {a b : ByteArray} (h : a = b) : (a.toList == b.toList) = true := by simp [h]
theorem eq_no {a b : ByteArray} (h : ¬ a = b) : (a.toList == b.toList) = false := by
  rw [beq_eq_false_iff_ne]
  exact fun e => h (toList_inj e)
theorem neq_yes {a b : ByteArray} (h : a = b) : (a.toList != b.toList) = false := by simp [h]

theorem ret_str {a b : ByteArray} (h : a = b) : Ending.returned (.string a) = .returned (.string b) := by rw [h]

/-- The name of an op; empty of all others. -/
def nameV (op : Int) : ByteArray :=
  if op = 1 then ⟨#[97, 100, 100]⟩
  else if op = 2 then ⟨#[115, 117, 98]⟩
  else if op = 3 then ⟨#[109, 117, 108]⟩
  else if op = 4 then ⟨#[97, 110, 100]⟩
  else if op = 5 then ⟨#[111, 114]⟩
  else if op = 6 then ⟨#[120, 111, 114]⟩
  else if op = 7 then ⟨#[108, 101, 115, 115]⟩
  else if op = 8 then ⟨#[115, 97, 109, 101]⟩
  else if op = 9 then ⟨#[108, 101, 102, 116]⟩
  else if op = 10 then ⟨#[114, 105, 103, 104, 116]⟩
  else ⟨#[]⟩
theorem nameV_0 : nameV 0 = ⟨#[]⟩ := rfl
theorem nameV_1 : nameV 1 = ⟨#[97, 100, 100]⟩ := rfl
theorem nameV_2 : nameV 2 = ⟨#[115, 117, 98]⟩ := rfl
theorem nameV_3 : nameV 3 = ⟨#[109, 117, 108]⟩ := rfl
theorem nameV_4 : nameV 4 = ⟨#[97, 110, 100]⟩ := rfl
theorem nameV_5 : nameV 5 = ⟨#[111, 114]⟩ := rfl
theorem nameV_6 : nameV 6 = ⟨#[120, 111, 114]⟩ := rfl
theorem nameV_7 : nameV 7 = ⟨#[108, 101, 115, 115]⟩ := rfl
theorem nameV_8 : nameV 8 = ⟨#[115, 97, 109, 101]⟩ := rfl
theorem nameV_9 : nameV 9 = ⟨#[108, 101, 102, 116]⟩ := rfl
theorem nameV_10 : nameV 10 = ⟨#[114, 105, 103, 104, 116]⟩ := rfl
theorem nameV_no (op : Int) (h : op < 1 ∨ 10 < op) : nameV op = ⟨#[]⟩ := by
  unfold nameV
  repeat rw [if_neg (by omega)]

/-- The program's table lies in the block of its package-level variable. -/
def Tab (w : World) : Prop := ∀ i : Nat, i < 11 → w.cell? ⟨0, i, none⟩ = some (.string (nameV i))
theorem Tab.keep {w w' : World} (h : Tab w) (hb : Below w.heap.size w w') : Tab w' := by
  intro i hi
  rw [hb.cell (p := ⟨0, i, none⟩) (World.block_lt_of_cell? w _ (h i hi))]
  exact h i hi

theorem bel_then {w w1 w2 : World} (h : Below w.heap.size w w1) (k : Below w1.heap.size w1 w2) : Below w.heap.size w w2 := h.trans (k.mono h.size)

theorem below_one (w : World) (o : Obj) : Below w.heap.size w (w.alloc o) := (Below.refl _ _).alloc (Nat.le_refl _) _

/-- The model's list in new memory. -/
def listObj (t : TypeId) : Obj := .cells #[.string ⟨#[]⟩, .string ⟨#[97, 100, 100]⟩, .string ⟨#[115, 117, 98]⟩, .string ⟨#[109, 117, 108]⟩, .string ⟨#[97, 110, 100]⟩, .string ⟨#[111, 114]⟩, .string ⟨#[120, 111, 114]⟩, .string ⟨#[108, 101, 115, 115]⟩, .string ⟨#[115, 97, 109, 101]⟩, .string ⟨#[108, 101, 102, 116]⟩, .string ⟨#[114, 105, 103, 104, 116]⟩] t
theorem list_cell (w : World) (t : TypeId) (j : Nat) (hj : j < 11) :
    (w.alloc (listObj t)).cell? ⟨w.heap.size, j, none⟩ = some (.string (nameV j)) := by
  unfold listObj
  rw [World.cell?_alloc_new]
  match j, hj with
  | 0, _ => rfl
  | 1, _ => rfl
  | 2, _ => rfl
  | 3, _ => rfl
  | 4, _ => rfl
  | 5, _ => rfl
  | 6, _ => rfl
  | 7, _ => rfl
  | 8, _ => rfl
  | 9, _ => rfl
  | 10, _ => rfl

set_option maxHeartbeats 400000 in
theorem names_any (w : World) : Calls Tryd.prog 17 #[] w fun e w' => ∃ t, e = .returned (.slice (some ⟨w.heap.size, 0, none⟩) 11 11) ∧ w' = w.alloc (listObj t) := by
  go_enter Tryd.func17, Tryd.ntmps17
  go_wp2
  go_ret
  exact ⟨_, rfl, rfl⟩

set_option maxHeartbeats 400000 in
theorem iname_1 (w : World) (hT : Tab w) : Calls Tryd.prog 9 #[.int .i64 1] w fun e w' => e = .returned (.string (nameV 1)) ∧ w' = w := by
  have hc := hT 1 (by omega)
  rw [show ((1 : Nat) : Int) = 1 from rfl] at hc
  generalize nameV 1 = s at *
  clear hT
  go_enter Tryd.func9, Tryd.ntmps9
  go_wp2
  go_ret
  exact ⟨rfl, rfl⟩
set_option maxHeartbeats 400000 in
theorem sname_1 (w : World) : Calls Tryd.prog 10 #[.int .i64 1] w fun e w' => e = .returned (.string (nameV 1)) ∧ Below w.heap.size w w' := by
  go_enter Tryd.func10, Tryd.ntmps10
  go_wp2
  go_ret
  exact ⟨rfl, below_one _ _⟩

set_option maxHeartbeats 400000 in
theorem iname_2 (w : World) (hT : Tab w) : Calls Tryd.prog 9 #[.int .i64 2] w fun e w' => e = .returned (.string (nameV 2)) ∧ w' = w := by
  have hc := hT 2 (by omega)
  rw [show ((2 : Nat) : Int) = 2 from rfl] at hc
  generalize nameV 2 = s at *
  clear hT
  go_enter Tryd.func9, Tryd.ntmps9
  go_wp2
  go_ret
  exact ⟨rfl, rfl⟩
set_option maxHeartbeats 400000 in
theorem sname_2 (w : World) : Calls Tryd.prog 10 #[.int .i64 2] w fun e w' => e = .returned (.string (nameV 2)) ∧ Below w.heap.size w w' := by
  go_enter Tryd.func10, Tryd.ntmps10
  go_wp2
  go_ret
  exact ⟨rfl, below_one _ _⟩

set_option maxHeartbeats 400000 in
theorem iname_3 (w : World) (hT : Tab w) : Calls Tryd.prog 9 #[.int .i64 3] w fun e w' => e = .returned (.string (nameV 3)) ∧ w' = w := by
  have hc := hT 3 (by omega)
  rw [show ((3 : Nat) : Int) = 3 from rfl] at hc
  generalize nameV 3 = s at *
  clear hT
  go_enter Tryd.func9, Tryd.ntmps9
  go_wp2
  go_ret
  exact ⟨rfl, rfl⟩
set_option maxHeartbeats 400000 in
theorem sname_3 (w : World) : Calls Tryd.prog 10 #[.int .i64 3] w fun e w' => e = .returned (.string (nameV 3)) ∧ Below w.heap.size w w' := by
  go_enter Tryd.func10, Tryd.ntmps10
  go_wp2
  go_ret
  exact ⟨rfl, below_one _ _⟩

set_option maxHeartbeats 400000 in
theorem iname_4 (w : World) (hT : Tab w) : Calls Tryd.prog 9 #[.int .i64 4] w fun e w' => e = .returned (.string (nameV 4)) ∧ w' = w := by
  have hc := hT 4 (by omega)
  rw [show ((4 : Nat) : Int) = 4 from rfl] at hc
  generalize nameV 4 = s at *
  clear hT
  go_enter Tryd.func9, Tryd.ntmps9
  go_wp2
  go_ret
  exact ⟨rfl, rfl⟩
set_option maxHeartbeats 400000 in
theorem sname_4 (w : World) : Calls Tryd.prog 10 #[.int .i64 4] w fun e w' => e = .returned (.string (nameV 4)) ∧ Below w.heap.size w w' := by
  go_enter Tryd.func10, Tryd.ntmps10
  go_wp2
  go_ret
  exact ⟨rfl, below_one _ _⟩

set_option maxHeartbeats 400000 in
theorem iname_5 (w : World) (hT : Tab w) : Calls Tryd.prog 9 #[.int .i64 5] w fun e w' => e = .returned (.string (nameV 5)) ∧ w' = w := by
  have hc := hT 5 (by omega)
  rw [show ((5 : Nat) : Int) = 5 from rfl] at hc
  generalize nameV 5 = s at *
  clear hT
  go_enter Tryd.func9, Tryd.ntmps9
  go_wp2
  go_ret
  exact ⟨rfl, rfl⟩
set_option maxHeartbeats 400000 in
theorem sname_5 (w : World) : Calls Tryd.prog 10 #[.int .i64 5] w fun e w' => e = .returned (.string (nameV 5)) ∧ Below w.heap.size w w' := by
  go_enter Tryd.func10, Tryd.ntmps10
  go_wp2
  go_ret
  exact ⟨rfl, below_one _ _⟩

set_option maxHeartbeats 400000 in
theorem iname_6 (w : World) (hT : Tab w) : Calls Tryd.prog 9 #[.int .i64 6] w fun e w' => e = .returned (.string (nameV 6)) ∧ w' = w := by
  have hc := hT 6 (by omega)
  rw [show ((6 : Nat) : Int) = 6 from rfl] at hc
  generalize nameV 6 = s at *
  clear hT
  go_enter Tryd.func9, Tryd.ntmps9
  go_wp2
  go_ret
  exact ⟨rfl, rfl⟩
set_option maxHeartbeats 400000 in
theorem sname_6 (w : World) : Calls Tryd.prog 10 #[.int .i64 6] w fun e w' => e = .returned (.string (nameV 6)) ∧ Below w.heap.size w w' := by
  go_enter Tryd.func10, Tryd.ntmps10
  go_wp2
  go_ret
  exact ⟨rfl, below_one _ _⟩

set_option maxHeartbeats 400000 in
theorem iname_7 (w : World) (hT : Tab w) : Calls Tryd.prog 9 #[.int .i64 7] w fun e w' => e = .returned (.string (nameV 7)) ∧ w' = w := by
  have hc := hT 7 (by omega)
  rw [show ((7 : Nat) : Int) = 7 from rfl] at hc
  generalize nameV 7 = s at *
  clear hT
  go_enter Tryd.func9, Tryd.ntmps9
  go_wp2
  go_ret
  exact ⟨rfl, rfl⟩
set_option maxHeartbeats 400000 in
theorem sname_7 (w : World) : Calls Tryd.prog 10 #[.int .i64 7] w fun e w' => e = .returned (.string (nameV 7)) ∧ Below w.heap.size w w' := by
  go_enter Tryd.func10, Tryd.ntmps10
  go_wp2
  go_ret
  exact ⟨rfl, below_one _ _⟩

set_option maxHeartbeats 400000 in
theorem iname_8 (w : World) (hT : Tab w) : Calls Tryd.prog 9 #[.int .i64 8] w fun e w' => e = .returned (.string (nameV 8)) ∧ w' = w := by
  have hc := hT 8 (by omega)
  rw [show ((8 : Nat) : Int) = 8 from rfl] at hc
  generalize nameV 8 = s at *
  clear hT
  go_enter Tryd.func9, Tryd.ntmps9
  go_wp2
  go_ret
  exact ⟨rfl, rfl⟩
set_option maxHeartbeats 400000 in
theorem sname_8 (w : World) : Calls Tryd.prog 10 #[.int .i64 8] w fun e w' => e = .returned (.string (nameV 8)) ∧ Below w.heap.size w w' := by
  go_enter Tryd.func10, Tryd.ntmps10
  go_wp2
  go_ret
  exact ⟨rfl, below_one _ _⟩

set_option maxHeartbeats 400000 in
theorem iname_9 (w : World) (hT : Tab w) : Calls Tryd.prog 9 #[.int .i64 9] w fun e w' => e = .returned (.string (nameV 9)) ∧ w' = w := by
  have hc := hT 9 (by omega)
  rw [show ((9 : Nat) : Int) = 9 from rfl] at hc
  generalize nameV 9 = s at *
  clear hT
  go_enter Tryd.func9, Tryd.ntmps9
  go_wp2
  go_ret
  exact ⟨rfl, rfl⟩
set_option maxHeartbeats 400000 in
theorem sname_9 (w : World) : Calls Tryd.prog 10 #[.int .i64 9] w fun e w' => e = .returned (.string (nameV 9)) ∧ Below w.heap.size w w' := by
  go_enter Tryd.func10, Tryd.ntmps10
  go_wp2
  go_ret
  exact ⟨rfl, below_one _ _⟩

set_option maxHeartbeats 400000 in
theorem iname_10 (w : World) (hT : Tab w) : Calls Tryd.prog 9 #[.int .i64 10] w fun e w' => e = .returned (.string (nameV 10)) ∧ w' = w := by
  have hc := hT 10 (by omega)
  rw [show ((10 : Nat) : Int) = 10 from rfl] at hc
  generalize nameV 10 = s at *
  clear hT
  go_enter Tryd.func9, Tryd.ntmps9
  go_wp2
  go_ret
  exact ⟨rfl, rfl⟩
set_option maxHeartbeats 400000 in
theorem sname_10 (w : World) : Calls Tryd.prog 10 #[.int .i64 10] w fun e w' => e = .returned (.string (nameV 10)) ∧ Below w.heap.size w w' := by
  go_enter Tryd.func10, Tryd.ntmps10
  go_wp2
  go_ret
  exact ⟨rfl, below_one _ _⟩

set_option maxHeartbeats 400000 in
theorem iname_no (op : Int) (w : World) (h : op < 1 ∨ 10 < op) : Calls Tryd.prog 9 #[.int .i64 op] w fun e w' => e = .returned (.string (nameV op)) ∧ w' = w := by
  have hv : Hid (nameV op = ⟨#[]⟩) := nameV_no op h
  rcases h with h | h
  · have h1 : ¬ 1 ≤ op := by omega
    go_enter Tryd.func9, Tryd.ntmps9
    go_wp2
    go_ret
    exact ⟨ret_str hv.out.symm, rfl⟩
  · have h1 : 1 ≤ op := by omega
    have h2 : ¬ op < 11 := by omega
    go_enter Tryd.func9, Tryd.ntmps9
    go_wp2
    go_ret
    exact ⟨ret_str hv.out.symm, rfl⟩
set_option maxHeartbeats 400000 in
theorem sname_no (op : Int) (w : World) (h : op < 1 ∨ 10 < op) : Calls Tryd.prog 10 #[.int .i64 op] w fun e w' => e = .returned (.string (nameV op)) ∧ Below w.heap.size w w' := by
  have hv : Hid (nameV op = ⟨#[]⟩) := nameV_no op h
  rcases h with h | h
  · have h1 : ¬ 1 ≤ op := by omega
    go_enter Tryd.func10, Tryd.ntmps10
    go_wp2
    go_ret
    exact ⟨ret_str hv.out.symm, Below.refl _ _⟩
  · have h1 : 1 ≤ op := by omega
    have h2 : ¬ op ≤ 10 := by omega
    go_enter Tryd.func10, Tryd.ntmps10
    go_wp2
    go_ret
    exact ⟨ret_str hv.out.symm, Below.refl _ _⟩

theorem iname_any (op : Int) (w : World) (hT : Tab w) : Calls Tryd.prog 9 #[.int .i64 op] w fun e w' => e = .returned (.string (nameV op)) ∧ w' = w := by
  by_cases h : op < 1 ∨ 10 < op
  · exact iname_no op w h
  · have h' : op = 1 ∨ op = 2 ∨ op = 3 ∨ op = 4 ∨ op = 5 ∨ op = 6 ∨ op = 7 ∨ op = 8 ∨ op = 9 ∨ op = 10 := by omega
    rcases h' with rfl | rfl | rfl | rfl | rfl | rfl | rfl | rfl | rfl | rfl
    · exact iname_1 w hT
    · exact iname_2 w hT
    · exact iname_3 w hT
    · exact iname_4 w hT
    · exact iname_5 w hT
    · exact iname_6 w hT
    · exact iname_7 w hT
    · exact iname_8 w hT
    · exact iname_9 w hT
    · exact iname_10 w hT

theorem sname_any (op : Int) (w : World) : Calls Tryd.prog 10 #[.int .i64 op] w fun e w' => e = .returned (.string (nameV op)) ∧ Below w.heap.size w w' := by
  by_cases h : op < 1 ∨ 10 < op
  · exact sname_no op w h
  · have h' : op = 1 ∨ op = 2 ∨ op = 3 ∨ op = 4 ∨ op = 5 ∨ op = 6 ∨ op = 7 ∨ op = 8 ∨ op = 9 ∨ op = 10 := by omega
    rcases h' with rfl | rfl | rfl | rfl | rfl | rfl | rfl | rfl | rfl | rfl
    · exact sname_1 w
    · exact sname_2 w
    · exact sname_3 w
    · exact sname_4 w
    · exact sname_5 w
    · exact sname_6 w
    · exact sname_7 w
    · exact sname_8 w
    · exact sname_9 w
    · exact sname_10 w

/-- r is the op of that name, or 0 of a text that is no name. -/
def IsOf (s : ByteArray) (r : Int) : Prop :=
  (1 ≤ r ∧ r ≤ 10 ∧ nameV r = s) ∨ (r = 0 ∧ ∀ j : Int, 1 ≤ j → j ≤ 10 → nameV j ≠ s)
theorem name_inj (i j : Int) (hi : 1 ≤ i ∧ i ≤ 10) (hj : 1 ≤ j ∧ j ≤ 10) (h : nameV i = nameV j) : i = j := by
  have hi' : i = 1 ∨ i = 2 ∨ i = 3 ∨ i = 4 ∨ i = 5 ∨ i = 6 ∨ i = 7 ∨ i = 8 ∨ i = 9 ∨ i = 10 := by omega
  have hj' : j = 1 ∨ j = 2 ∨ j = 3 ∨ j = 4 ∨ j = 5 ∨ j = 6 ∨ j = 7 ∨ j = 8 ∨ j = 9 ∨ j = 10 := by omega
  rcases hi' with rfl | rfl | rfl | rfl | rfl | rfl | rfl | rfl | rfl | rfl <;> rcases hj' with rfl | rfl | rfl | rfl | rfl | rfl | rfl | rfl | rfl | rfl <;> first | rfl | (exfalso; revert h; decide)
theorem isOf_one (s : ByteArray) (r r' : Int) (h : IsOf s r) (h' : IsOf s r') : r = r' := by
  rcases h with ⟨h1, h2, h3⟩ | ⟨h1, h2⟩ <;> rcases h' with ⟨k1, k2, k3⟩ | ⟨k1, k2⟩
  · exact name_inj r r' ⟨h1, h2⟩ ⟨k1, k2⟩ (h3.trans k3.symm)
  · exact absurd h3 (k2 r h1 h2)
  · exact absurd k3 (h2 r' k1 k2)
  · omega

set_option maxHeartbeats 1000000 in
theorem iof_any (s : ByteArray) (w : World) (hT : Tab w) : Calls Tryd.prog 8 #[.string s] w fun e w' => ∃ r : Int, e = .returned (.int .i64 r) ∧ IsOf s r ∧ w' = w := by
  have HT : Hid (Tab w) := hT
  clear hT
  go_enter Tryd.func8, Tryd.ntmps8
  go_wp2
  go_loop [3] (fun i => ∃ k : Nat, 1 ≤ k ∧ k ≤ 11 ∧ i = .int .i64 k ∧ ∀ j : Nat, 1 ≤ j → j < k → nameV j ≠ s) (fun i => 11 - (intOf i).toNat)
  case atStart => exact ⟨1, by omega, by omega, rfl, fun j _ _ => by omega⟩
  case round =>
    obtain ⟨k, hk1, hk2, rfl, hno⟩ := hrel
    have HN : Hid (∀ j : Nat, 1 ≤ j → j < k → nameV j ≠ s) := hno
    clear hno
    by_cases hlt : (k : Int) < 11
    · have hc := HT.out k (by omega)
      obtain ⟨z, hz⟩ : ∃ z, nameV k = z := ⟨_, rfl⟩
      rw [hz] at hc
      have HZ : Hid (nameV k = z) := hz
      clear hz
      by_cases he : z = s
      · have hq := eq_yes he
        have HE : Hid (z = s) := he
        clear he
        go_wp2
        go_ret
        exact ⟨_, rfl, .inl ⟨by omega, by omega, HZ.out.trans HE.out⟩, rfl⟩
      · have hq := eq_no he
        have HE : Hid (¬ z = s) := he
        clear he
        go_wp2
        go_round
        case rel => exact ⟨k + 1, by omega, by omega, by go_num, fun j h1 h2 => by
          by_cases hj : j = k
          · subst hj; rw [HZ.out]; exact HE.out
          · exact HN.out j h1 (by omega)⟩
        case measure => simp [intOf]; omega
    · go_wp2
      go_ret
      exact ⟨0, rfl, .inr ⟨rfl, fun j h1 h2 => by
        obtain ⟨m, rfl⟩ := Int.eq_ofNat_of_zero_le (show 0 ≤ j by omega)
        exact HN.out m (by omega) (by omega)⟩, rfl⟩

set_option maxHeartbeats 1000000 in
theorem sof_any (s : ByteArray) (w : World) : Calls Tryd.prog 11 #[.string s] w fun e w' => ∃ r : Int, e = .returned (.int .i64 r) ∧ IsOf s r ∧ Below w.heap.size w w' := by
  go_enter Tryd.func11, Tryd.ntmps11
  go_wp2_with fail
  refine (names_any _).mono ?_
  rintro e w1 ⟨t, rfl, hw1⟩
  have HB : Hid (Below w.heap.size w w1) := by rw [hw1]; exact below_one _ _
  have HT : Hid (∀ j : Nat, j < 11 → w1.cell? ⟨w.heap.size, j, none⟩ = some (.string (nameV j))) := by
    intro j hj
    rw [hw1]
    exact list_cell w t j hj
  clear hw1
  generalize w.heap.size = B at HT ⊢
  go_wp2
  go_loop [4] (fun i => ∃ k : Nat, 1 ≤ k ∧ k ≤ 11 ∧ i = .int .i64 k ∧ ∀ j : Nat, 1 ≤ j → j < k → nameV j ≠ s) (fun i => 11 - (intOf i).toNat)
  case atStart => exact ⟨1, by omega, by omega, rfl, fun j _ _ => by omega⟩
  case round =>
    obtain ⟨k, hk1, hk2, rfl, hno⟩ := hrel
    have HN : Hid (∀ j : Nat, 1 ≤ j → j < k → nameV j ≠ s) := hno
    clear hno
    by_cases hlt : (k : Int) < 11
    · have hc := HT.out k (by omega)
      obtain ⟨z, hz⟩ : ∃ z, nameV k = z := ⟨_, rfl⟩
      rw [hz] at hc
      have HZ : Hid (nameV k = z) := hz
      clear hz
      by_cases he : z = s
      · have hq := eq_yes he
        have HE : Hid (z = s) := he
        clear he
        go_wp2
        go_ret
        exact ⟨_, rfl, .inl ⟨by omega, by omega, HZ.out.trans HE.out⟩, HB.out⟩
      · have hq := eq_no he
        have HE : Hid (¬ z = s) := he
        clear he
        go_wp2
        go_round
        case rel => exact ⟨k + 1, by omega, by omega, by go_num, fun j h1 h2 => by
          by_cases hj : j = k
          · subst hj; rw [HZ.out]; exact HE.out
          · exact HN.out j h1 (by omega)⟩
        case measure => simp [intOf]; omega
    · go_wp2
      go_ret
      exact ⟨0, rfl, .inr ⟨rfl, fun j h1 h2 => by
        obtain ⟨m, rfl⟩ := Int.eq_ofNat_of_zero_le (show 0 ≤ j by omega)
        exact HN.out m (by omega) (by omega)⟩, HB.out⟩
end Go.Proofs.YtopjmmkkdabjpaaDoor
