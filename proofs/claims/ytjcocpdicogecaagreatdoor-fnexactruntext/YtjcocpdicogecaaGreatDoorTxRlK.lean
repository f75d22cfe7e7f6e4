/- The library as the program's Parse reads it: Split, TrimPrefix, Atoi at every text; the variables that it wants. -/
import Derived.Test.YtjcocpdicogecaaGreatDoorKDef
import Derived.Test.YtjcocpdicogecaaGreatDoorKTx1
import Derived.Test.YtjcocpdicogecaaGreatDoorKTx2
import Derived.Test.YtjcocpdicogecaaGreatDoorPaLayK
import Derived.Lib.AtoiErrMem
namespace Go.Proofs.YtjcocpdicogecaaGreatDoor
open Go.ChangeShapes Go.WideShapes Go.ChangeAt Go.RowKit
set_option linter.unusedVariables false

structure Libs (w : World) (EP : Addr) : Prop where
  tabs : Tabs w
  eno : w.cell? ⟨0, 0, none⟩ = some (.iface 156 (.pointer (some EP)))
  syn : ∃ tp p, w.cell? ⟨4, 0, none⟩ = some (.iface tp p)
  rng : ∃ tp p, w.cell? ⟨5, 0, none⟩ = some (.iface tp p)
  mxl : ∃ m, w.cell? ⟨6, 0, none⟩ = some (.int .i64 m)
theorem Libs.keep {w w' : World} {EP : Addr} (h : Libs w EP) (hb : Below w.heap.size w w') : Libs w' EP := by
  obtain ⟨ts, ps, hs⟩ := h.syn
  obtain ⟨tr, pr, hr⟩ := h.rng
  obtain ⟨m, hm⟩ := h.mxl
  exact ⟨h.tabs.keep hb, Bel.keeps hb h.eno, ⟨ts, ps, Bel.keeps hb hs⟩, ⟨tr, pr, Bel.keeps hb hr⟩, ⟨m, Bel.keeps hb hm⟩⟩
theorem split_pieces (l : List UInt8) : (Lib.splitB ⟨#[32]⟩ 0 (Lib.countB (bs l) ⟨#[32]⟩) (bs l)).map Value.string = txC (spl 32 l) := by
  have h := Lib.splitB_data ⟨#[32]⟩ 0 (Lib.countB (bs l) ⟨#[32]⟩) (bs l)
  have e : Lib.countB (bs l) ⟨#[32]⟩ = Lib.count l [32] := by
    show Lib.count (bs l).data.toList [32] = _
    rw [bs_list]
  rw [bs_list, e] at h
  have h2 : Lib.splitK [32] 0 (Lib.count l [32]) l = spl 32 l := splitK_spl 32 l
  rw [e]
  show _ = (spl 32 l).map (fun l => Value.string (bs l))
  rw [← h2]
  have h3 : Lib.splitK (⟨#[32]⟩ : ByteArray).data.toList 0 (Lib.count l [32]) l = Lib.splitK [32] 0 (Lib.count l [32]) l := rfl
  rw [h3] at h
  rw [← h, List.map_map]
  apply List.map_congr_left
  intro s _
  show Value.string s = Value.string (bs s.data.toList)
  rw [bs_of]
theorem split_count (l : List UInt8) : Lib.countB (bs l) ⟨#[32]⟩ + 1 = (spl 32 l).length := by
  have h := congrArg List.length (split_pieces l)
  rw [List.length_map, Lib.splitB_all ⟨#[32]⟩ (by decide) 0 _ _ rfl] at h
  rw [h]
  simp [txC]
theorem split_any (l : List UInt8) (w : World) {EP : Addr} (hl : l.length ≤ 1048576) (hL : Libs w EP) :
    Calls Tryz.prog 47 #[.string (bs l), .string ⟨#[32]⟩] w fun e w' => e = .returned (.slice (some ⟨w.heap.size, 0, none⟩) (spl 32 l).length (spl 32 l).length) ∧ w' = w.alloc (.cells (txC (spl 32 l)).toArray 9) := by
  obtain ⟨m, hm⟩ := hL.mxl
  refine (Any.strings_Split Tryz.laysn146 (by kernel_rfl) (bs l) ⟨#[32]⟩ m w (by rw [bs_size]; omega) hm (by decide)).mono ?_
  rintro e w' ⟨rfl, rfl⟩
  rw [split_count, split_pieces]
  exact ⟨rfl, rfl⟩
theorem trim_any (l p : List UInt8) (w : World) :
    Calls Tryz.prog 50 #[.string (bs l), .string (bs p)] w fun e w' => e = .returned (.string (bs (Lib.trimPrefix l p))) ∧ w' = w := by
  refine (Any.strings_TrimPrefix Tryz.laysn101 (bs l) (bs p) w).mono ?_
  rintro e w' ⟨rfl, rfl⟩
  rw [bs_list, bs_list]
  exact ⟨rfl, rfl⟩
def GivesAtoi (l : List UInt8) (w : World) (e : Ending) (w' : World) : Prop := ∃ v ev, e = .returned (.tuple #[.int .i64 v, ev]) ∧ ((ev = .nilIface ∧ Lib.atoiAll l = .ok v) ∨ ((∃ tp p, ev = .iface tp p) ∧ ∀ u, Lib.atoiAll l ≠ .ok u)) ∧ Below w.heap.size w w'
theorem atoi_any (l : List UInt8) (w : World) {EP : Addr} (hl : l.length ≤ 1048576) (hL : Libs w EP) :
    Calls Tryz.prog 52 #[.string (bs l)] w fun e w' => GivesAtoi l w e w' := by
  have hs : (bs l).size ≤ 281474976710656 := by rw [bs_size]; omega
  cases h : Lib.atoiAll l with
  | ok v =>
    refine (Any.strconv_Atoi_ok Tryz.layscn172 (bs l) (by omega) v (by rw [bs_list]; exact h) w).mono ?_
    rintro e w' ⟨rfl, hw⟩
    refine ⟨v, .nilIface, rfl, .inl ⟨rfl, h⟩, ?_⟩
    rcases hw with rfl | ⟨t, rfl⟩
    · exact Below.refl _ _
    · exact Lib.bytesWorld_below _ _ _
  | «syntax» =>
    obtain ⟨tp, p, hv⟩ := hL.syn
    refine (Any.strconv_Atoi_syntax Tryz.layscn172 (bs l) hs (by rw [bs_list]; exact h) (.iface tp p) w hv (.inr ⟨tp, p, rfl⟩)).mono ?_
    rintro e w' ⟨N, rfl, _, _, hb⟩
    exact ⟨_, _, rfl, .inr ⟨⟨_, _, rfl⟩, fun u hu => (by rw [h] at hu; cases hu)⟩, hb⟩
  | range =>
    obtain ⟨tp, p, hv⟩ := hL.rng
    refine (Any.strconv_Atoi_range Tryz.layscn172 (bs l) hs (by rw [bs_list]; exact h) (.iface tp p) w hv (.inr ⟨tp, p, rfl⟩)).mono ?_
    rintro e w' ⟨N, rfl, _, _, hb⟩
    exact ⟨_, _, rfl, .inr ⟨⟨_, _, rfl⟩, fun u hu => (by rw [h] at hu; cases hu)⟩, hb⟩
/-- A step in a box. -/
def SB (w : World) (B : Nat) (x : InsD) : Prop := SBx w B x.op x.d x.a x.b x.n
theorem SB.put {w : World} {B : Nat} {x : InsD} (h : SB w B x) {k : Nat} (h1 : 1 ≤ k) (h4 : k ≤ 4) (v : Int) : SB (w.setCell ⟨B, k, none⟩ (.int .i64 v)) B (setF x k v) := by
  unfold SB SBx at *
  have hk : k = 1 ∨ k = 2 ∨ k = 3 ∨ k = 4 := by omega
  rcases hk with rfl | rfl | rfl | rfl <;> simp [World.setCell, Array.getElem?_modify, h, setF]
theorem SB.keep {w w' : World} {B : Nat} {x : InsD} (h : SB w B x) (hb : Below w.heap.size w w') : SB w' B x := SBx.keep h hb
theorem SB.lt {w : World} {B : Nat} {x : InsD} (h : SB w B x) : B < w.heap.size := SBx.lt h
theorem SB.other {w : World} {B g : Nat} {x : InsD} (h : SB w B x) (hne : g ≠ B) (j : Nat) (v : Value) : SB (w.setCell ⟨g, j, none⟩ v) B x := by
  unfold SB SBx at *
  rw [Below.heap_setCell _ _ _ B (by show B ≠ g; exact fun e => hne e.symm)]
  exact h
theorem SB.cell {w : World} {B : Nat} {x : InsD} (h : SB w B x) {k : Nat} (h1 : 1 ≤ k) (h4 : k ≤ 4) : w.cell? ⟨B, k, none⟩ = some (.int .i64 (getF x k)) ∧ w.frozen? ⟨B, k, none⟩ = false := by
  unfold SB SBx at h
  have hk : k = 1 ∨ k = 2 ∨ k = 3 ∨ k = 4 := by omega
  rcases hk with rfl | rfl | rfl | rfl <;> simp [World.cell?, World.frozen?, h, getF]
end Go.Proofs.YtjcocpdicogecaaGreatDoor
