/- A program each of whose lists has a block of its own: the places of its numbers, no two of them one. -/
import Derived.Test.YthdioeeanodjiaaDoorKSpU
import Derived.Test.YthdioeeanodjiaaDoorSzK
namespace Go.Proofs.YthdioeeanodjiaaDoor
open Go.ChangeShapes Go.WideShapes Go.ChangeAt Go.RowKit
set_option linter.unusedVariables false

def vB : Value → Nat
  | .slice (some a) _ _ => a.block
  | _ => 0
def vOff : Value → Nat
  | .slice (some a) _ _ => a.off
  | _ => 0
def vN : Value → Nat
  | .slice _ n _ => n
  | _ => 0
def rowT (v : Value) : RowT := ⟨vB v, vOff v, vN v⟩
def cellV (w : World) (b o : Nat) : Value := (w.cell? ⟨b, o, none⟩).getD undef
def phisT (w : World) (v : Value) : PhisT := ⟨vB v, vOff v, vN v, fun j => rowT (cellV w (vB v) (vOff v + j * 2 + 1))⟩
def blocksT (w : World) (v : Value) : BlocksT := ⟨vB v, vOff v, vN v, fun i => phisT w (cellV w (vB v) (vOff v + i * 6)), fun i => rowT (cellV w (vB v) (vOff v + i * 6 + 1))⟩


theorem armsTr {lo hi : Nat} {own : OwnF} {c : Nat × Nat × Nat} {w : World} {v : Value} {l : List ArmD} (h : ListO (fun g => own g = c) 2 (fun _ => ArmAt) w v l) (hs : l.length ≤ 1048576) (hb : ∀ g, own g = c → lo ≤ g ∧ g < hi ∧ ∀ j, w.frozen? ⟨g, j, none⟩ = false) : ArmsTr lo hi w v (rowT v) ∧ (0 < (rowT v).n → own (rowT v).b = c) := by
  obtain ⟨a, cap, rfl, hm, hc⟩ := h
  by_cases h0 : 0 < l.length
  · obtain ⟨b, off, rfl, hS, hd⟩ := hc h0
    obtain ⟨h1, h2, h3⟩ := hb b hS
    refine ⟨⟨⟨_, cap, rfl, fun _ => rfl⟩, hs, fun _ => ⟨h1, h2⟩, fun _ => h3, fun i hi => ?_⟩, fun _ => hS⟩
    obtain ⟨q0, q1⟩ := hd i _ (List.getElem?_eq_getElem hi)
    exact ⟨⟨_, q0⟩, ⟨_, q1⟩⟩
  · have e : l.length = 0 := by omega
    have hn : (rowT (Value.slice a l.length cap)).n = 0 := e
    refine ⟨⟨⟨a, cap, rfl, fun h => absurd h (by omega)⟩, hs, fun h => absurd h (by omega), fun h => absurd h (by omega), fun i hi => absurd hi (by omega)⟩, fun h => absurd h (by omega)⟩
theorem insTr {lo hi : Nat} {own : OwnF} {c : Nat × Nat × Nat} {w : World} {v : Value} {l : List InsD} (h : ListO (fun g => own g = c) 5 (fun _ => InsAt) w v l) (hs : l.length ≤ 1048576) (hb : ∀ g, own g = c → lo ≤ g ∧ g < hi ∧ ∀ j, w.frozen? ⟨g, j, none⟩ = false) : InsTr lo hi w v (rowT v) ∧ (0 < (rowT v).n → own (rowT v).b = c) := by
  obtain ⟨a, cap, rfl, hm, hc⟩ := h
  by_cases h0 : 0 < l.length
  · obtain ⟨b, off, rfl, hS, hd⟩ := hc h0
    obtain ⟨h1, h2, h3⟩ := hb b hS
    refine ⟨⟨⟨_, cap, rfl, fun _ => rfl⟩, hs, fun _ => ⟨h1, h2⟩, fun _ => h3, fun i hi => ?_⟩, fun _ => hS⟩
    obtain ⟨q0, q1, q2, q3, q4⟩ := hd i _ (List.getElem?_eq_getElem hi)
    exact ⟨⟨_, q0⟩, ⟨_, q1⟩, ⟨_, q2⟩, ⟨_, q3⟩, ⟨_, q4⟩⟩
  · have e : l.length = 0 := by omega
    have hn : (rowT (Value.slice a l.length cap)).n = 0 := e
    refine ⟨⟨⟨a, cap, rfl, fun h => absurd h (by omega)⟩, hs, fun h => absurd h (by omega), fun h => absurd h (by omega), fun i hi => absurd hi (by omega)⟩, fun h => absurd h (by omega)⟩
theorem phisTr {lo hi : Nat} {own : OwnF} {i : Nat} {w : World} {v : Value} {l : List PhiD} (h : ListO (fun g => own g = (1, i, 0)) 2 (PhiO own i) w v l) (hs : l.length ≤ 1048576) (hs2 : ∀ p ∈ l, p.arms.length ≤ 1048576) (hb : ∀ g, (own g).1 ≤ 3 → lo ≤ g ∧ g < hi ∧ ∀ j, w.frozen? ⟨g, j, none⟩ = false) :
    PhisTr lo hi w v (phisT w v) ∧ (0 < (phisT w v).n → own (phisT w v).b = (1, i, 0)) ∧ ∀ j, j < (phisT w v).n → 0 < ((phisT w v).arms j).n → own ((phisT w v).arms j).b = (3, i, j) := by
  obtain ⟨a, cap, rfl, hm, hc⟩ := h
  by_cases h0 : 0 < l.length
  · obtain ⟨b, off, rfl, hS, hd⟩ := hc h0
    obtain ⟨h1, h2, h3⟩ := hb b (by rw [hS]; simp)
    have hall : ∀ j, j < l.length → ∃ sv, w.cell? ⟨b, off + j * 2 + 1, none⟩ = some sv ∧ (∃ z, w.cell? ⟨b, off + j * 2, none⟩ = some (.int .i64 z)) ∧ cellV w b (off + j * 2 + 1) = sv ∧ ArmsTr lo hi w sv (rowT sv) ∧ (0 < (rowT sv).n → own (rowT sv).b = (3, i, j)) := fun j hj => by
      obtain ⟨q0, av, q1, q2⟩ := hd j _ (List.getElem?_eq_getElem hj)
      exact ⟨av, q1, ⟨_, q0⟩, by simp [cellV, q1], armsTr q2 (hs2 _ (List.getElem_mem hj)) (fun g hg => hb g (by rw [hg]; simp))⟩
    refine ⟨⟨⟨_, cap, rfl, fun _ => rfl⟩, hs, fun _ => ⟨h1, h2⟩, fun _ => h3, fun j hj => ?_, fun j hj => ?_⟩, fun _ => hS, fun j hj => ?_⟩
    · obtain ⟨sv, _, h, _⟩ := hall j hj
      exact h
    · obtain ⟨sv, h, _, e, ha, _⟩ := hall j hj
      refine ⟨sv, h, ?_⟩
      show ArmsTr lo hi w sv (rowT (cellV w b (off + j * 2 + 1)))
      rw [e]
      exact ha
    · obtain ⟨sv, h, _, e, _, ho⟩ := hall j hj
      show 0 < (rowT (cellV w b (off + j * 2 + 1))).n → own (rowT (cellV w b (off + j * 2 + 1))).b = (3, i, j)
      rw [e]
      exact ho
  · have e : l.length = 0 := by omega
    have hn : (phisT w (Value.slice a l.length cap)).n = 0 := e
    refine ⟨⟨⟨a, cap, rfl, fun h => absurd h (by omega)⟩, hs, fun h => absurd h (by omega), fun h => absurd h (by omega), fun i hi => absurd hi (by omega), fun i hi => absurd hi (by omega)⟩, fun h => absurd h (by omega), fun i hi => absurd hi (by omega)⟩

/-- The places of a program whose lists are apart: no two of them one. -/
theorem FnO.tree {lo hi : Nat} {own : OwnF} {w : World} {bv : Value} {F : FnD} (h : FnO lo own w bv F.blocks) (hs : FnSmall F) (hh : ∀ g, (own g).1 ≤ 3 → g < hi) : BlocksTr lo hi w bv (blocksT w bv) ∧ (blocksSp (blocksT w bv)).Nodup := by
  have hb : ∀ g, (own g).1 ≤ 3 → lo ≤ g ∧ g < hi ∧ ∀ j, w.frozen? ⟨g, j, none⟩ = false := fun g hg => ⟨h.low g hg, hh g hg, h.thaw g hg⟩
  obtain ⟨a, cap, rfl, hm, hc⟩ := h.rows
  by_cases h0 : 0 < F.blocks.length
  · obtain ⟨b, off, rfl, hS, hd⟩ := hc h0
    obtain ⟨h1, h2, h3⟩ := hb b (by rw [hS]; simp)
    have hall : ∀ i, i < F.blocks.length → (NumAt w b (off + i * 6 + 2) ∧ NumAt w b (off + i * 6 + 3) ∧ NumAt w b (off + i * 6 + 4) ∧ NumAt w b (off + i * 6 + 5)) ∧
        (∃ pv, w.cell? ⟨b, off + i * 6, none⟩ = some pv ∧ cellV w b (off + i * 6) = pv ∧ PhisTr lo hi w pv (phisT w pv) ∧ (0 < (phisT w pv).n → own (phisT w pv).b = (1, i, 0)) ∧ ∀ j, j < (phisT w pv).n → 0 < ((phisT w pv).arms j).n → own ((phisT w pv).arms j).b = (3, i, j)) ∧
        ∃ lv, w.cell? ⟨b, off + i * 6 + 1, none⟩ = some lv ∧ cellV w b (off + i * 6 + 1) = lv ∧ InsTr lo hi w lv (rowT lv) ∧ (0 < (rowT lv).n → own (rowT lv).b = (2, i, 0)) := fun i hi => by
      obtain ⟨pv, lv, c0, c1, c2, c3, c4, c5, hp, hl⟩ := hd i _ (List.getElem?_eq_getElem hi)
      obtain ⟨s1, s2, s3⟩ := hs.2 _ (List.getElem_mem hi)
      exact ⟨⟨⟨_, c2⟩, ⟨_, c3⟩, ⟨_, c4⟩, ⟨_, c5⟩⟩, ⟨pv, c0, by simp [cellV, c0], phisTr hp s1 s3 hb⟩, ⟨lv, c1, by simp [cellV, c1], insTr hl s2 (fun g hg => hb g (by rw [hg]; simp))⟩⟩
    have hO : OwnT own (blocksT w (.slice (some ⟨b, off, none⟩) F.blocks.length cap)) := by
      refine ⟨fun _ => hS, fun i hi => ?_, fun i hi => ?_, fun i hi => ?_⟩
      · obtain ⟨_, ⟨pv, _, e, _, ho, _⟩, _⟩ := hall i hi
        show 0 < (phisT w (cellV w b (off + i * 6))).n → own (phisT w (cellV w b (off + i * 6))).b = (1, i, 0)
        rw [e]; exact ho
      · obtain ⟨_, _, ⟨lv, _, e, _, ho⟩⟩ := hall i hi
        show 0 < (rowT (cellV w b (off + i * 6 + 1))).n → own (rowT (cellV w b (off + i * 6 + 1))).b = (2, i, 0)
        rw [e]; exact ho
      · obtain ⟨_, ⟨pv, _, e, _, _, ho⟩, _⟩ := hall i hi
        show ∀ j, j < (phisT w (cellV w b (off + i * 6))).n → 0 < ((phisT w (cellV w b (off + i * 6))).arms j).n → own ((phisT w (cellV w b (off + i * 6))).arms j).b = (3, i, j)
        rw [e]; exact ho
    refine ⟨⟨⟨_, cap, rfl, fun _ => rfl⟩, hs.1, fun _ => ⟨h1, h2⟩, fun _ => h3, fun i hi => (hall i hi).1, fun i hi => ?_, fun i hi => ?_⟩, hO.nodup⟩
    · obtain ⟨_, ⟨pv, c, e, ht, _, _⟩, _⟩ := hall i hi
      refine ⟨pv, c, ?_⟩
      show PhisTr lo _ w pv (phisT w (cellV w b (off + i * 6)))
      rw [e]; exact ht
    · obtain ⟨_, _, ⟨lv, c, e, ht, _⟩⟩ := hall i hi
      refine ⟨lv, c, ?_⟩
      show InsTr lo _ w lv (rowT (cellV w b (off + i * 6 + 1)))
      rw [e]; exact ht
  · have e : F.blocks.length = 0 := by omega
    have hn : (blocksT w (Value.slice a F.blocks.length cap)).n = 0 := e
    refine ⟨⟨⟨a, cap, rfl, fun h => absurd h (by omega)⟩, hs.1, fun h => absurd h (by omega), fun h => absurd h (by omega), fun i hi => absurd hi (by omega), fun i hi => absurd hi (by omega), fun i hi => absurd hi (by omega)⟩, ?_⟩
    simp [blocksSp, blocksT, vN, e, rowS]
end Go.Proofs.YthdioeeanodjiaaDoor
