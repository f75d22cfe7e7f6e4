/- slices.Clone at the lists of a program: the same cells in new memory. Lists of places and of arms, cloned. A list of places or of arms, appended to an empty one: it reads alike, in new memory. A row of the call's own whose parts name lists that lie elsewhere: it grows, and it reads as a list. -/
import Derived.Test.YtfmdnjnmbkgmjaaGreatDoorKSeq
import Derived.Test.YtfmdnjnmbkgmjaaGreatDoorKIns
import Derived.Maps.AppendAt
import Derived.ArgAppend
import Derived.Laws.OwnMore
namespace Go.Proofs.YtfmdnjnmbkgmjaaGreatDoor
open Go.ChangeShapes Go.WideShapes Go.ChangeAt Go.RowKit
set_option linter.unusedVariables false
def GivesCopy (w : World) (k n : Nat) (ad : Addr) (e : Ending) (w' : World) : Prop := ∃ g cap, e = .returned (.slice (some ⟨g, 0, none⟩) n cap) ∧ w.heap.size ≤ g ∧ g < w'.heap.size ∧ (∀ j, j < n * k → w'.cell? ⟨g, j, none⟩ = w.cell? (ad.add j)) ∧ (∀ j, w'.frozen? ⟨g, j, none⟩ = false) ∧ Below w.heap.size w w'
def CellsAt (w : World) (ad : Addr) (m : Nat) : Prop := ∀ j, j < m → ∃ u, w.cell? (ad.add j) = some u ∧ u.oneCell' = true
def newsOf (w : World) (ad : Addr) (m : Nat) : List Value := (List.range m).map (fun j => (w.cell? (ad.add j)).getD undef)
theorem newsOf_len (w : World) (ad : Addr) (m : Nat) : (newsOf w ad m).length = m := by simp [newsOf]
theorem newsOf_at {w : World} {ad : Addr} {m : Nat} (h : CellsAt w ad m) {j : Nat} {u : Value} (hu : (newsOf w ad m)[j]? = some u) : w.cell? (ad.add j) = some u := by
  have hj : j < m := by have := (List.getElem?_eq_some_iff.1 hu).1; rw [newsOf_len] at this; exact this
  obtain ⟨v, hv, _⟩ := h j hj
  simp only [newsOf, List.getElem?_map, List.getElem?_range hj, Option.map_some, Option.some.injEq] at hu
  rw [hv] at hu ⊢
  simpa using hu
theorem newsOf_one {w : World} {ad : Addr} {m : Nat} (h : CellsAt w ad m) : ∀ u ∈ newsOf w ad m, u.oneCell' = true := by
  intro u hu
  obtain ⟨j, hj⟩ := List.getElem?_of_mem hu
  have hjm : j < m := by have := (List.getElem?_eq_some_iff.1 hj).1; rw [newsOf_len] at this; exact this
  obtain ⟨v, hv, h1⟩ := h j hjm
  have := newsOf_at h hj
  rw [hv] at this
  cases this
  exact h1
theorem ownsRow_empty {w : World} {g lo : Nat} {E : TypeId} {k : Nat} (hg : w.heap.size = g) (hl : lo ≤ g) : (w.alloc (.cells #[] E)).ownsRow lo E k (.slice (some ⟨g, 0, none⟩) 0 0) 0 [] := by
  subst hg
  exact ⟨by simp, .inr ⟨_, 0, #[], rfl, hl, World.alloc_heap_new w _, Nat.le_refl _, Nat.zero_le _, by simp, by simp⟩⟩
theorem cells_kept {w : World} {ad : Addr} {news : List Value} (hc : ∀ j u, news[j]? = some u → w.cell? (ad.add j) = some u) (o : Obj) : ∀ j u, news[j]? = some u → (w.alloc o).cell? (ad.add j) = some u := fun j u hu => by
  have h := hc j u hu
  rw [World.cell?_alloc_lt _ _ _ (World.block_lt_of_cell? w _ h)]
  exact h
theorem copy_of {w w' : World} {E : TypeId} {k n : Nat} {v : Value} {ad : Addr} (hC : CellsAt w ad (n * k)) (h : w'.ownsRow w.heap.size E k v (0 + n) ([] ++ newsOf w ad (n * k))) (hnn : v ≠ .slice none 0 0) (hb : Below w.heap.size w w') : GivesCopy w k n ad (.returned v) w' := by
  rw [Nat.zero_add, List.nil_append] at h
  rcases h.2 with ⟨h0, _⟩ | ⟨g, cap, cur, rfl, hlo, hg, h1, h2, h3, h4⟩
  · exact absurd h0 hnn
  · refine ⟨g, cap, rfl, hlo, (Array.getElem?_eq_some_iff.1 hg).1, fun j hj => ?_, fun j => by simp [World.frozen?, hg], hb⟩
    obtain ⟨u, hu, _⟩ := hC j hj
    have e1 : (newsOf w ad (n * k))[j]? = some u := by
      simp only [newsOf, List.getElem?_map, List.getElem?_range hj, Option.map_some, hu, Option.getD_some]
    rw [← h4, List.getElem?_take_of_lt hj] at e1
    rw [hu]
    simp only [World.cell?, hg]
    simpa using e1
theorem cinfo_arm : (Tryz.prog.info? 155).map (fun i => (i.zero, i.size, i.bytes)) = some (some (.agg #[.int .i64 0, .int .i64 0]), 2, 16) := by kernel_rfl
set_option maxRecDepth 100000 in
set_option maxHeartbeats 4000000 in
theorem clone_arm (ad : Addr) (n cap : Nat) (w : World) (hC : CellsAt w ad (n * 2)) (hn : n ≤ 1048576) :
    Calls Tryz.prog 100 #[.slice (some ad) n cap] w fun e w' => GivesCopy w 2 n ad e w' := by
  have HC : Hid (CellsAt w ad (n * 2)) := hC
  have hmx : 2000000 ≤ maxLen := by decide
  clear hC
  obtain ⟨i0, hi, hz0, hz1, hz2⟩ := info_parts cinfo_arm
  have heq : ∀ w : World, (binOp BinOp.eql 80 (.slice (some ad) n cap) (.slice none 0 0)).run Tryz.prog w = .ok (.bool false) w := fun w => by kernel_rfl
  go_enter Tryz.func100, Tryz.ntmps100
  go_wp2_with (at_builtin; refine wpList_append_own _ rfl _ _ 80 rfl w.heap.size 155 i0 (.agg #[.int .i64 0, .int .i64 0]) 2 16 Tryz.underlying80 hi hz0 hz1 hz2 rfl (by decide) (.slice (some ⟨w.heap.size, 0, none⟩) 0 0) 0 [] rfl (ownsRow_empty (k := 2) rfl (Nat.le_refl _)) ad n cap (newsOf w ad (n * 2)) rfl (newsOf_len _ _ _) (cells_kept (fun j u hu => newsOf_at HC.out hu) _) (newsOf_one HC.out) (by omega) (by omega) (by simp) ?_; intro v' wa hown' hgrow hnil; have HO' : Hid (wa.ownsRow w.heap.size 155 2 v' (0 + n) ([] ++ newsOf w ad (n * 2))) := hown'; have HG : Hid (World.grownBy _ _ _) := hgrow; have HNN : Hid (v' ≠ .slice none 0 0) := fun h => absurd (hnil.1 h).1 (by simp); clear hown' hgrow hnil)
  go_ret
  refine copy_of HC.out HO'.out HNN.out (((Below.refl _ w).alloc (Nat.le_refl _) _).grown HG.out (by simp) (fun j ej => ?_))
  obtain rfl : w.heap.size = j := by simpa [Value.ownBlock] using ej
  exact Nat.le_refl _
set_option maxRecDepth 100000 in
theorem clone_arm_nil (n cap : Nat) (w : World) : Calls Tryz.prog 100 #[.slice none n cap] w fun e w' => e = .returned (.slice none 0 0) ∧ w' = w := by
  have heq : ∀ w : World, (binOp BinOp.eql 80 (.slice none n cap) (.slice none 0 0)).run Tryz.prog w = .ok (.bool true) w := fun w => by kernel_rfl
  go_enter Tryz.func100, Tryz.ntmps100
  go_wp2_with fail
  go_ret
  exact ⟨rfl, rfl⟩
theorem cinfo_ins : (Tryz.prog.info? 57).map (fun i => (i.zero, i.size, i.bytes)) = some (some (.agg #[.int .i64 0, .int .i64 0, .int .i64 0, .int .i64 0, .int .i64 0]), 5, 40) := by kernel_rfl
set_option maxRecDepth 100000 in
set_option maxHeartbeats 4000000 in
theorem clone_ins (ad : Addr) (n cap : Nat) (w : World) (hC : CellsAt w ad (n * 5)) (hn : n ≤ 1048576) :
    Calls Tryz.prog 98 #[.slice (some ad) n cap] w fun e w' => GivesCopy w 5 n ad e w' := by
  have HC : Hid (CellsAt w ad (n * 5)) := hC
  have hmx : 2000000 ≤ maxLen := by decide
  clear hC
  obtain ⟨i0, hi, hz0, hz1, hz2⟩ := info_parts cinfo_ins
  have heq : ∀ w : World, (binOp BinOp.eql 51 (.slice (some ad) n cap) (.slice none 0 0)).run Tryz.prog w = .ok (.bool false) w := fun w => by kernel_rfl
  go_enter Tryz.func98, Tryz.ntmps98
  go_wp2_with (at_builtin; refine wpList_append_own _ rfl _ _ 51 rfl w.heap.size 57 i0 (.agg #[.int .i64 0, .int .i64 0, .int .i64 0, .int .i64 0, .int .i64 0]) 5 40 Tryz.underlying51 hi hz0 hz1 hz2 rfl (by decide) (.slice (some ⟨w.heap.size, 0, none⟩) 0 0) 0 [] rfl (ownsRow_empty (k := 5) rfl (Nat.le_refl _)) ad n cap (newsOf w ad (n * 5)) rfl (newsOf_len _ _ _) (cells_kept (fun j u hu => newsOf_at HC.out hu) _) (newsOf_one HC.out) (by omega) (by omega) (by simp) ?_; intro v' wa hown' hgrow hnil; have HO' : Hid (wa.ownsRow w.heap.size 57 5 v' (0 + n) ([] ++ newsOf w ad (n * 5))) := hown'; have HG : Hid (World.grownBy _ _ _) := hgrow; have HNN : Hid (v' ≠ .slice none 0 0) := fun h => absurd (hnil.1 h).1 (by simp); clear hown' hgrow hnil)
  go_ret
  refine copy_of HC.out HO'.out HNN.out (((Below.refl _ w).alloc (Nat.le_refl _) _).grown HG.out (by simp) (fun j ej => ?_))
  obtain rfl : w.heap.size = j := by simpa [Value.ownBlock] using ej
  exact Nat.le_refl _
set_option maxRecDepth 100000 in
theorem clone_ins_nil (n cap : Nat) (w : World) : Calls Tryz.prog 98 #[.slice none n cap] w fun e w' => e = .returned (.slice none 0 0) ∧ w' = w := by
  have heq : ∀ w : World, (binOp BinOp.eql 51 (.slice none n cap) (.slice none 0 0)).run Tryz.prog w = .ok (.bool true) w := fun w => by kernel_rfl
  go_enter Tryz.func98, Tryz.ntmps98
  go_wp2_with fail
  go_ret
  exact ⟨rfl, rfl⟩
theorem cinfo_phi : (Tryz.prog.info? 82).map (fun i => (i.zero, i.size, i.bytes)) = some (some (.agg #[.int .i64 0, .slice none 0 0]), 2, 32) := by kernel_rfl
set_option maxRecDepth 100000 in
set_option maxHeartbeats 4000000 in
theorem clone_phi (ad : Addr) (n cap : Nat) (w : World) (hC : CellsAt w ad (n * 2)) (hn : n ≤ 1048576) :
    Calls Tryz.prog 99 #[.slice (some ad) n cap] w fun e w' => GivesCopy w 2 n ad e w' := by
  have HC : Hid (CellsAt w ad (n * 2)) := hC
  have hmx : 2000000 ≤ maxLen := by decide
  clear hC
  obtain ⟨i0, hi, hz0, hz1, hz2⟩ := info_parts cinfo_phi
  have heq : ∀ w : World, (binOp BinOp.eql 50 (.slice (some ad) n cap) (.slice none 0 0)).run Tryz.prog w = .ok (.bool false) w := fun w => by kernel_rfl
  go_enter Tryz.func99, Tryz.ntmps99
  go_wp2_with (at_builtin; refine wpList_append_own _ rfl _ _ 50 rfl w.heap.size 82 i0 (.agg #[.int .i64 0, .slice none 0 0]) 2 32 Tryz.underlying50 hi hz0 hz1 hz2 rfl (by decide) (.slice (some ⟨w.heap.size, 0, none⟩) 0 0) 0 [] rfl (ownsRow_empty (k := 2) rfl (Nat.le_refl _)) ad n cap (newsOf w ad (n * 2)) rfl (newsOf_len _ _ _) (cells_kept (fun j u hu => newsOf_at HC.out hu) _) (newsOf_one HC.out) (by omega) (by omega) (by simp) ?_; intro v' wa hown' hgrow hnil; have HO' : Hid (wa.ownsRow w.heap.size 82 2 v' (0 + n) ([] ++ newsOf w ad (n * 2))) := hown'; have HG : Hid (World.grownBy _ _ _) := hgrow; have HNN : Hid (v' ≠ .slice none 0 0) := fun h => absurd (hnil.1 h).1 (by simp); clear hown' hgrow hnil)
  go_ret
  refine copy_of HC.out HO'.out HNN.out (((Below.refl _ w).alloc (Nat.le_refl _) _).grown HG.out (by simp) (fun j ej => ?_))
  obtain rfl : w.heap.size = j := by simpa [Value.ownBlock] using ej
  exact Nat.le_refl _
set_option maxRecDepth 100000 in
theorem clone_phi_nil (n cap : Nat) (w : World) : Calls Tryz.prog 99 #[.slice none n cap] w fun e w' => e = .returned (.slice none 0 0) ∧ w' = w := by
  have heq : ∀ w : World, (binOp BinOp.eql 50 (.slice none n cap) (.slice none 0 0)).run Tryz.prog w = .ok (.bool true) w := fun w => by kernel_rfl
  go_enter Tryz.func99, Tryz.ntmps99
  go_wp2_with fail
  go_ret
  exact ⟨rfl, rfl⟩
theorem cinfo_block : (Tryz.prog.info? 55).map (fun i => (i.zero, i.size, i.bytes)) = some (some (.agg #[.slice none 0 0, .slice none 0 0, .int .i64 0, .int .i64 0, .int .i64 0, .int .i64 0]), 6, 80) := by kernel_rfl
set_option maxRecDepth 100000 in
set_option maxHeartbeats 4000000 in
theorem clone_block (ad : Addr) (n cap : Nat) (w : World) (hC : CellsAt w ad (n * 6)) (hn : n ≤ 1048576) :
    Calls Tryz.prog 97 #[.slice (some ad) n cap] w fun e w' => GivesCopy w 6 n ad e w' := by
  have HC : Hid (CellsAt w ad (n * 6)) := hC
  have hmx : 2000000 ≤ maxLen := by decide
  clear hC
  obtain ⟨i0, hi, hz0, hz1, hz2⟩ := info_parts cinfo_block
  have heq : ∀ w : World, (binOp BinOp.eql 26 (.slice (some ad) n cap) (.slice none 0 0)).run Tryz.prog w = .ok (.bool false) w := fun w => by kernel_rfl
  go_enter Tryz.func97, Tryz.ntmps97
  go_wp2_with (at_builtin; refine wpList_append_own _ rfl _ _ 26 rfl w.heap.size 55 i0 (.agg #[.slice none 0 0, .slice none 0 0, .int .i64 0, .int .i64 0, .int .i64 0, .int .i64 0]) 6 80 Tryz.underlying26 hi hz0 hz1 hz2 rfl (by decide) (.slice (some ⟨w.heap.size, 0, none⟩) 0 0) 0 [] rfl (ownsRow_empty (k := 6) rfl (Nat.le_refl _)) ad n cap (newsOf w ad (n * 6)) rfl (newsOf_len _ _ _) (cells_kept (fun j u hu => newsOf_at HC.out hu) _) (newsOf_one HC.out) (by omega) (by omega) (by simp) ?_; intro v' wa hown' hgrow hnil; have HO' : Hid (wa.ownsRow w.heap.size 55 6 v' (0 + n) ([] ++ newsOf w ad (n * 6))) := hown'; have HG : Hid (World.grownBy _ _ _) := hgrow; have HNN : Hid (v' ≠ .slice none 0 0) := fun h => absurd (hnil.1 h).1 (by simp); clear hown' hgrow hnil)
  go_ret
  refine copy_of HC.out HO'.out HNN.out (((Below.refl _ w).alloc (Nat.le_refl _) _).grown HG.out (by simp) (fun j ej => ?_))
  obtain rfl : w.heap.size = j := by simpa [Value.ownBlock] using ej
  exact Nat.le_refl _
set_option maxRecDepth 100000 in
theorem clone_block_nil (n cap : Nat) (w : World) : Calls Tryz.prog 97 #[.slice none n cap] w fun e w' => e = .returned (.slice none 0 0) ∧ w' = w := by
  have heq : ∀ w : World, (binOp BinOp.eql 26 (.slice none n cap) (.slice none 0 0)).run Tryz.prog w = .ok (.bool true) w := fun w => by kernel_rfl
  go_enter Tryz.func97, Tryz.ntmps97
  go_wp2_with fail
  go_ret
  exact ⟨rfl, rfl⟩
end Go.Proofs.YtfmdnjnmbkgmjaaGreatDoor
namespace Go.Proofs.YtfmdnjnmbkgmjaaGreatDoor
open Go.ChangeShapes Go.WideShapes Go.ChangeAt Go.RowKit
set_option linter.unusedVariables false
theorem add_none (b off j : Nat) : (⟨b, off, none⟩ : Addr).add j = ⟨b, off + j, none⟩ := by
  cases j <;> simp [Addr.add]
def LiesAt {α : Type} (k : Nat) (E : World → Nat → Nat → α → Prop) (lo : Nat) (w : World) (a : Option Addr) (l : List α) : Prop := 0 < l.length → ∃ g, a = some ⟨g, 0, none⟩ ∧ lo ≤ g ∧ g < w.heap.size ∧ (∀ i x, l[i]? = some x → E w g (i * k) x) ∧ ∀ j, w.frozen? ⟨g, j, none⟩ = false
def GivesB {α : Type} (k : Nat) (E : World → Nat → Nat → α → Prop) (w : World) (l : List α) (e : Ending) (w' : World) : Prop := ∃ a cap, e = .returned (.slice a l.length cap) ∧ LiesAt k E w.heap.size w' a l ∧ Below w.heap.size w w'
theorem ins_cells {w : World} {ad : Addr} {l : List InsD} (hc : 0 < l.length → ∃ b off, some ad = some ⟨b, off, none⟩ ∧ 0 ≤ b ∧ ∀ i x, l[i]? = some x → InsAt w b (off + i * 5) x) : CellsAt w ad (l.length * 5) := by
  intro j hj
  obtain ⟨b, off, he, _, hE⟩ := hc (by omega)
  cases he
  obtain ⟨x, hx⟩ : ∃ x, l[j / 5]? = some x := ⟨_, List.getElem?_eq_getElem (by omega)⟩
  obtain ⟨q0, q1, q2, q3, q4⟩ := hE _ x hx
  rw [add_none]
  have hd : j / 5 * 5 + j % 5 = j := by omega
  have h5 : j % 5 = 0 ∨ j % 5 = 1 ∨ j % 5 = 2 ∨ j % 5 = 3 ∨ j % 5 = 4 := by omega
  rcases h5 with h | h | h | h | h
  · exact ⟨_, by rw [show off + j = off + j / 5 * 5 by omega]; exact q0, rfl⟩
  · exact ⟨_, by rw [show off + j = off + j / 5 * 5 + 1 by omega]; exact q1, rfl⟩
  · exact ⟨_, by rw [show off + j = off + j / 5 * 5 + 2 by omega]; exact q2, rfl⟩
  · exact ⟨_, by rw [show off + j = off + j / 5 * 5 + 3 by omega]; exact q3, rfl⟩
  · exact ⟨_, by rw [show off + j = off + j / 5 * 5 + 4 by omega]; exact q4, rfl⟩
theorem arm_cells {w : World} {ad : Addr} {l : List ArmD} (hc : 0 < l.length → ∃ b off, some ad = some ⟨b, off, none⟩ ∧ 0 ≤ b ∧ ∀ i x, l[i]? = some x → ArmAt w b (off + i * 2) x) : CellsAt w ad (l.length * 2) := by
  intro j hj
  obtain ⟨b, off, he, _, hE⟩ := hc (by omega)
  cases he
  obtain ⟨x, hx⟩ : ∃ x, l[j / 2]? = some x := ⟨_, List.getElem?_eq_getElem (by omega)⟩
  obtain ⟨q0, q1⟩ := hE _ x hx
  rw [add_none]
  have h2 : j % 2 = 0 ∨ j % 2 = 1 := by omega
  rcases h2 with h | h
  · exact ⟨_, by rw [show off + j = off + j / 2 * 2 by omega]; exact q0, rfl⟩
  · exact ⟨_, by rw [show off + j = off + j / 2 * 2 + 1 by omega]; exact q1, rfl⟩
theorem copy_ins (v : Value) (l : List InsD) (w : World) (h : ListAt 0 5 InsAt w v l) (hn : l.length ≤ 1048576) :
    Calls Tryz.prog 98 #[v] w fun e w' => GivesB 5 InsAt w l e w' := by
  obtain ⟨a, cap, rfl, hm, hc⟩ := h
  cases a with
  | none =>
    have h0 : l.length = 0 := by
      rcases Nat.eq_zero_or_pos l.length with h | h
      · exact h
      · obtain ⟨b, off, e, _⟩ := hc h
        cases e
    refine (clone_ins_nil _ _ w).mono ?_
    rintro e w' ⟨rfl, rfl⟩
    exact ⟨none, 0, by rw [h0], fun hp => absurd hp (by omega), Below.refl _ _⟩
  | some ad =>
    refine (clone_ins ad _ cap w (ins_cells hc) hn).mono ?_
    rintro e w' ⟨g, cap', rfl, hlo, hlt, hcp, hfz, hb⟩
    refine ⟨_, cap', rfl, fun hp => ⟨g, rfl, hlo, hlt, fun i x hx => ?_, hfz⟩, hb⟩
    have hi : i < l.length := (List.getElem?_eq_some_iff.1 hx).1
    obtain ⟨b, off, he, _, hE⟩ := hc hp
    cases he
    obtain ⟨q0, q1, q2, q3, q4⟩ := hE i x hx
    have hq : ∀ r, r < 5 → w'.cell? ⟨g, i * 5 + r, none⟩ = w.cell? ⟨b, off + i * 5 + r, none⟩ := fun r hr => by
      rw [hcp _ (by omega), add_none, Nat.add_assoc]
    exact ⟨(hq 0 (by omega)).trans q0, (hq 1 (by omega)).trans q1, (hq 2 (by omega)).trans q2, (hq 3 (by omega)).trans q3, (hq 4 (by omega)).trans q4⟩
theorem copy_arm (v : Value) (l : List ArmD) (w : World) (h : ListAt 0 2 ArmAt w v l) (hn : l.length ≤ 1048576) :
    Calls Tryz.prog 100 #[v] w fun e w' => GivesB 2 ArmAt w l e w' := by
  obtain ⟨a, cap, rfl, hm, hc⟩ := h
  cases a with
  | none =>
    have h0 : l.length = 0 := by
      rcases Nat.eq_zero_or_pos l.length with h | h
      · exact h
      · obtain ⟨b, off, e, _⟩ := hc h
        cases e
    refine (clone_arm_nil _ _ w).mono ?_
    rintro e w' ⟨rfl, rfl⟩
    exact ⟨none, 0, by rw [h0], fun hp => absurd hp (by omega), Below.refl _ _⟩
  | some ad =>
    refine (clone_arm ad _ cap w (arm_cells hc) hn).mono ?_
    rintro e w' ⟨g, cap', rfl, hlo, hlt, hcp, hfz, hb⟩
    refine ⟨_, cap', rfl, fun hp => ⟨g, rfl, hlo, hlt, fun i x hx => ?_, hfz⟩, hb⟩
    have hi : i < l.length := (List.getElem?_eq_some_iff.1 hx).1
    obtain ⟨b, off, he, _, hE⟩ := hc hp
    cases he
    obtain ⟨q0, q1⟩ := hE i x hx
    have hq : ∀ r, r < 2 → w'.cell? ⟨g, i * 2 + r, none⟩ = w.cell? ⟨b, off + i * 2 + r, none⟩ := fun r hr => by
      rw [hcp _ (by omega), add_none, Nat.add_assoc]
    exact ⟨(hq 0 (by omega)).trans q0, (hq 1 (by omega)).trans q1⟩
end Go.Proofs.YtfmdnjnmbkgmjaaGreatDoor
namespace Go.Proofs.YtfmdnjnmbkgmjaaGreatDoor
open Go.ChangeShapes Go.WideShapes Go.ChangeAt Go.RowKit
set_option linter.unusedVariables false
set_option maxRecDepth 100000 in
theorem add_ins (g : Nat) (v : Value) (l : List InsD) (w : World) (h : ListAt 0 5 InsAt w v l) (hn : l.length ≤ 1048576) (ty : TypeId) :
    ∃ v' w', (Builtin.append_ #[51, 51] ty #[.slice (some ⟨g, 0, none⟩) 0 0, v]).run Tryz.prog w = .ok v' w' ∧ (∃ a' cap', v' = .slice a' l.length cap' ∧ LiesAt 5 InsAt w.heap.size w' a' l) ∧ Below w.heap.size w w' := by
  obtain ⟨a, cap, rfl, hm, hc⟩ := h
  obtain ⟨i0, hi, hz0, hz1, hz2⟩ := info_parts cinfo_ins
  by_cases h0 : l.length = 0
  · refine ⟨.slice (some ⟨g, 0, none⟩) 0 0, w, ?_, ⟨some ⟨g, 0, none⟩, 0, by rw [h0], fun hp => absurd hp (by omega)⟩, Below.refl _ _⟩
    rw [h0]
    cases a with
    | none => simp [Builtin.append_, run_underlying Tryz.underlying51, sizeOf, typeInfo, hi, Builtin.lenOf, Builtin.firstCells, go_sem]
    | some ad => simp [Builtin.append_, run_underlying Tryz.underlying51, sizeOf, typeInfo, hi, Builtin.lenOf, Builtin.firstCells, go_sem]
  · have hmx : 2000000 ≤ maxLen := by decide
    obtain ⟨b, off, rfl, _, hE⟩ := hc (by omega)
    have hC : CellsAt w ⟨b, off, none⟩ (l.length * 5) := ins_cells hc
    obtain ⟨v', w', hrun, hown, hgr⟩ := run_append_arg_grows (P := Tryz.prog) w 51 ty 57 i0 (.agg #[.int .i64 0, .int .i64 0, .int .i64 0, .int .i64 0, .int .i64 0]) 5 40 Tryz.underlying51 hi hz0 hz1 hz2 rfl (by decide) ⟨g, 0, none⟩ 0 0 [] rfl (fun j u h => by simp at h) ⟨b, off, none⟩ l.length cap (newsOf w ⟨b, off, none⟩ (l.length * 5)) (newsOf_len _ _ _) (fun j u hu => newsOf_at hC hu) (by omega) (by omega) (by omega)
    have hnn : v' ≠ .slice none 0 0 := by
      rcases hown.2 with ⟨_, h2⟩ | ⟨_, _, _, rfl, _⟩
      · omega
      · simp
    have hb : Below w.heap.size w w' := (Below.refl w.heap.size w).grown hgr (Nat.le_refl _) (fun j ej => by cases ej)
    obtain ⟨g2, cap', e, hlo, hlt, hcp, hfz, _⟩ := copy_of hC hown hnn hb
    cases e
    refine ⟨_, w', hrun, ⟨_, cap', rfl, fun hp => ⟨g2, rfl, hlo, hlt, fun i x hx => ?_, hfz⟩⟩, hb⟩
    have hil : i < l.length := (List.getElem?_eq_some_iff.1 hx).1
    obtain ⟨q0, q1, q2, q3, q4⟩ := hE i x hx
    have hq : ∀ r, r < 5 → w'.cell? ⟨g2, i * 5 + r, none⟩ = w.cell? ⟨b, off + i * 5 + r, none⟩ := fun r hr => by
      rw [hcp _ (by omega), add_none, Nat.add_assoc]
    exact ⟨(hq 0 (by omega)).trans q0, (hq 1 (by omega)).trans q1, (hq 2 (by omega)).trans q2, (hq 3 (by omega)).trans q3, (hq 4 (by omega)).trans q4⟩
set_option maxRecDepth 100000 in
theorem add_arm (g : Nat) (v : Value) (l : List ArmD) (w : World) (h : ListAt 0 2 ArmAt w v l) (hn : l.length ≤ 1048576) (ty : TypeId) :
    ∃ v' w', (Builtin.append_ #[80, 80] ty #[.slice (some ⟨g, 0, none⟩) 0 0, v]).run Tryz.prog w = .ok v' w' ∧ (∃ a' cap', v' = .slice a' l.length cap' ∧ LiesAt 2 ArmAt w.heap.size w' a' l) ∧ Below w.heap.size w w' := by
  obtain ⟨a, cap, rfl, hm, hc⟩ := h
  obtain ⟨i0, hi, hz0, hz1, hz2⟩ := info_parts cinfo_arm
  by_cases h0 : l.length = 0
  · refine ⟨.slice (some ⟨g, 0, none⟩) 0 0, w, ?_, ⟨some ⟨g, 0, none⟩, 0, by rw [h0], fun hp => absurd hp (by omega)⟩, Below.refl _ _⟩
    rw [h0]
    cases a with
    | none => simp [Builtin.append_, run_underlying Tryz.underlying80, sizeOf, typeInfo, hi, Builtin.lenOf, Builtin.firstCells, go_sem]
    | some ad => simp [Builtin.append_, run_underlying Tryz.underlying80, sizeOf, typeInfo, hi, Builtin.lenOf, Builtin.firstCells, go_sem]
  · have hmx : 2000000 ≤ maxLen := by decide
    obtain ⟨b, off, rfl, _, hE⟩ := hc (by omega)
    have hC : CellsAt w ⟨b, off, none⟩ (l.length * 2) := arm_cells hc
    obtain ⟨v', w', hrun, hown, hgr⟩ := run_append_arg_grows (P := Tryz.prog) w 80 ty 155 i0 (.agg #[.int .i64 0, .int .i64 0]) 2 16 Tryz.underlying80 hi hz0 hz1 hz2 rfl (by decide) ⟨g, 0, none⟩ 0 0 [] rfl (fun j u h => by simp at h) ⟨b, off, none⟩ l.length cap (newsOf w ⟨b, off, none⟩ (l.length * 2)) (newsOf_len _ _ _) (fun j u hu => newsOf_at hC hu) (by omega) (by omega) (by omega)
    have hnn : v' ≠ .slice none 0 0 := by
      rcases hown.2 with ⟨_, h2⟩ | ⟨_, _, _, rfl, _⟩
      · omega
      · simp
    have hb : Below w.heap.size w w' := (Below.refl w.heap.size w).grown hgr (Nat.le_refl _) (fun j ej => by cases ej)
    obtain ⟨g2, cap', e, hlo, hlt, hcp, hfz, _⟩ := copy_of hC hown hnn hb
    cases e
    refine ⟨_, w', hrun, ⟨_, cap', rfl, fun hp => ⟨g2, rfl, hlo, hlt, fun i x hx => ?_, hfz⟩⟩, hb⟩
    have hil : i < l.length := (List.getElem?_eq_some_iff.1 hx).1
    obtain ⟨q0, q1⟩ := hE i x hx
    have hq : ∀ r, r < 2 → w'.cell? ⟨g2, i * 2 + r, none⟩ = w.cell? ⟨b, off + i * 2 + r, none⟩ := fun r hr => by
      rw [hcp _ (by omega), add_none, Nat.add_assoc]
    exact ⟨(hq 0 (by omega)).trans q0, (hq 1 (by omega)).trans q1⟩
end Go.Proofs.YtfmdnjnmbkgmjaaGreatDoor
namespace Go.Proofs.YtfmdnjnmbkgmjaaGreatDoor
open Go.ChangeShapes Go.WideShapes Go.ChangeAt Go.RowKit
set_option linter.unusedVariables false
def KeepOff (X : Nat) (ob : Option Nat) (w w' : World) : Prop := ∀ b, b < w.heap.size → b ≠ X → some b ≠ ob → w'.heap[b]? = w.heap[b]?
theorem KeepOff.refl (X : Nat) (ob : Option Nat) (w : World) : KeepOff X ob w w := fun _ _ _ _ => rfl
theorem KeepOff.cell {X : Nat} {ob : Option Nat} {w w' : World} (h : KeepOff X ob w w') {p : Addr} (h1 : p.block < w.heap.size) (h2 : p.block ≠ X) (h3 : some p.block ≠ ob) : w'.cell? p = w.cell? p := by
  simp only [World.cell?, h p.block h1 h2 h3]
theorem KeepOff.trans {X : Nat} {ob : Option Nat} {a b c : World} (h : KeepOff X ob a b) (hs : a.heap.size ≤ b.heap.size) (k : KeepOff X ob b c) : KeepOff X ob a c := fun d h1 h2 h3 => (k d (by omega) h2 h3).trans (h d h1 h2 h3)
theorem KeepOff.grown {X : Nat} {ob ob' : Option Nat} {w w' w2 : World} (hg : w.grownBy w' ob) (ho : ob' = ob ∨ ob' = some w.heap.size) (h : KeepOff X ob' w' w2) : KeepOff X ob w w2 := fun b h1 h2 h3 => by
  rw [h b (Nat.lt_of_lt_of_le h1 hg.size) h2 (by
    rcases ho with rfl | rfl
    · exact h3
    · intro e
      simp at e
      omega)]
  exact hg.block b h1 h3
def RowOut {α : Type} (T : TypeId) (k : Nat) (G : World → List Value → α → Prop) (w : World) (lo X : Nat) (v : Value) (l : List α) : Prop :=
  ∃ xs, w.ownsRow lo T k v l.length xs ∧ v.ownBlock ≠ some X ∧ ∀ i x, l[i]? = some x → ∀ w2, KeepOff X v.ownBlock w w2 → G w2 ((xs.drop (i * k)).take k) x
theorem RowOut.empty {α : Type} {T : TypeId} {k : Nat} {G : World → List Value → α → Prop} (w : World) (lo X : Nat) : RowOut T k G w lo X (.slice none 0 0) [] :=
  ⟨[], ⟨by simp, .inl ⟨rfl, rfl⟩⟩, by simp [Value.ownBlock], fun i x hx => by simp at hx⟩
theorem RowOut.grow {α : Type} {T : TypeId} {k : Nat} {G : World → List Value → α → Prop} {w w' : World} {lo X : Nat} {v v' : Value} {l : List α} (h : RowOut T k G w lo X v l) (x : α) (news : List Value) (hn : news.length = k)
    (hown : ∀ xs, w.ownsRow lo T k v l.length xs → w'.ownsRow lo T k v' (l.length + 1) (xs ++ news)) (hg : w.grownBy w' v.ownBlock) (ho : v'.ownBlock = v.ownBlock ∨ v'.ownBlock = some w.heap.size) (hX : X < w.heap.size) (hG : ∀ w2, KeepOff X v.ownBlock w w2 → G w2 news x) : RowOut T k G w' lo X v' (l ++ [x]) := by
  obtain ⟨xs, h1, h2, h3⟩ := h
  refine ⟨xs ++ news, by simpa using hown xs h1, ?_, fun i y hy w2 hk => ?_⟩
  · rcases ho with e | e
    · rw [e]; exact h2
    · rw [e]
      intro e2
      simp at e2
      omega
  · have hk2 := KeepOff.grown hg ho hk
    have hlen : xs.length = l.length * k := h1.1
    by_cases hi : i < l.length
    · rw [List.getElem?_append_left hi] at hy
      have e : ((xs ++ news).drop (i * k)).take k = (xs.drop (i * k)).take k := by
        have hle : i * k + k ≤ xs.length := by
          rw [hlen, ← Nat.succ_mul]
          exact Nat.mul_le_mul_right k hi
        rw [List.drop_append_of_le_length (by omega), List.take_append_of_le_length (by rw [List.length_drop]; omega)]
      rw [e]
      exact h3 i y hy w2 hk2
    · rw [List.getElem?_append_right (by omega)] at hy
      have hi0 : i - l.length = 0 := by
        rcases Nat.eq_zero_or_pos (i - l.length) with h | h
        · exact h
        · rw [List.getElem?_eq_none (by simp; omega)] at hy
          cases hy
      rw [hi0] at hy
      simp at hy
      subst hy
      have hil : i = l.length := by omega
      subst hil
      have e : ((xs ++ news).drop (l.length * k)).take k = news := by
        rw [← hlen, List.drop_left, List.take_of_length_le (by omega)]
      rw [e]
      exact hG w2 hk2
theorem RowOut.keep {α : Type} {T : TypeId} {k : Nat} {G : World → List Value → α → Prop} {w w' : World} {lo X : Nat} {v : Value} {l : List α} (h : RowOut T k G w lo X v l) (hb : ∀ b, b < w.heap.size → b ≠ X → w'.heap[b]? = w.heap[b]?) (hs : w.heap.size ≤ w'.heap.size) : RowOut T k G w' lo X v l := by
  obtain ⟨xs, h1, h2, h3⟩ := h
  refine ⟨xs, ⟨h1.1, ?_⟩, h2, fun i x hx w2 hk => h3 i x hx w2 (KeepOff.trans (fun b a1 a2 _ => hb b a1 a2) hs hk)⟩
  rcases h1.2 with ha | ⟨g, cap, cur, rfl, hlo, hg, hr⟩
  · exact .inl ha
  · refine .inr ⟨g, cap, cur, rfl, hlo, ?_, hr⟩
    rw [hb g (Array.getElem?_eq_some_iff.1 hg).1 (by intro e; exact h2 (by rw [e]; rfl))]
    exact hg
theorem RowOut.read {α : Type} {T : TypeId} {k : Nat} {G : World → List Value → α → Prop} {w : World} {lo X : Nat} {v : Value} {l : List α} (h : RowOut T k G w lo X v l) (hm : l.length ≤ 9223372036854775807) {E : World → Nat → Nat → α → Prop}
    (hE : ∀ (g i : Nat) (x : α) (ys : List Value), G w ys x → (∀ j u, ys[j]? = some u → w.cell? ⟨g, i + j, none⟩ = some u) → E w g i x) : ListAt lo k E w v l := by
  obtain ⟨xs, h1, h2, h3⟩ := h
  rcases h1.2 with ⟨hv, h0⟩ | ⟨g, cap, cur, hv, hlo, hg, hr⟩
  · exact ⟨Option.none, 0, by rw [hv, h0], hm, fun hp => absurd hp (by omega)⟩
  · refine ⟨some ⟨g, 0, Option.none⟩, cap, hv, hm, fun hp => ⟨g, 0, rfl, hlo, fun i x hx => hE g _ x _ (h3 i x hx w (KeepOff.refl _ _ _)) (fun j u hu => ?_)⟩⟩
    have hj : j < k := by
      have := (List.getElem?_eq_some_iff.1 hu).1
      rw [List.length_take] at this
      omega
    rw [List.getElem?_take_of_lt hj, List.getElem?_drop] at hu
    have hc := h1.cells (g := g) (by rw [hv]; rfl) _ _ hu
    rw [add_none] at hc
    rw [Nat.add_assoc]
    exact hc
end Go.Proofs.YtfmdnjnmbkgmjaaGreatDoor
