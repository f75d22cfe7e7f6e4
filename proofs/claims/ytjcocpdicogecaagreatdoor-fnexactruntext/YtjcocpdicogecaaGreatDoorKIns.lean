/- The struct arguments of the laws, read as numbers. What a place makes and takes: the program's InsDef and the model's answer alike, for every place. Programs in memory: what a value of type Fn reads as, kept while the world only grows; the laws' own Fn, read. Lists of numbers in memory: compared, marked, held against the marks. What places and ends take: the program's InsUses and TermUses and the model's answer alike, each in new memory. -/
import Derived.Test.YtjcocpdicogecaaGreatDoorRows
import Derived.WalkKit
import Derived.ProofKit
import Derived.OpenShut
import Derived.Lib.SmallJoins
import Derived.Below
import Derived.Laws.ResultCell
import Derived.Deep.Slices
import Derived.Handy
import Derived.Deep.QuietTactic
import Derived.BigQuiet
namespace Go.Proofs.YtjcocpdicogecaaGreatDoor
open Go.ChangeShapes Go.WideShapes Go.ChangeAt Go.RowKit
set_option linter.unusedVariables false

/-- A field of a struct, read. -/
theorem trod_field {H : Type} {enc : TypeId × Value → H} {P : Program} {w : World} {base : Nat} {spare : Nat → Bool} {held : Bool} {fuel : Nat} {t : TypeId} {fs : Array Field} {cs : List Value} {x : DataW H × List MemPlace}
    (ht : P.underlying t = some (.struct fs)) (h : DataW.trod enc P w base spare held fuel t cs = some x) (i : Nat) {f : Field} (hi : fs[i]? = some f) :
    ∃ n y, DataW.trod enc P w base spare held n f.type ((cs.drop f.offset).take (P.cellsOf f.type)) = some y := by
  obtain ⟨xs, n, _, _, _, hlen, hf⟩ := DataW.trod_struct ht h
  have hb : i < xs.length := by
    rw [hlen]
    by_cases hb : i < fs.size
    · exact hb
    · rw [Array.getElem?_eq_none (by omega)] at hi
      cases hi
  exact ⟨n, xs[i], by rw [hf i f hi, List.getElem?_eq_getElem hb]⟩

theorem trod_len {H : Type} {enc : TypeId × Value → H} {P : Program} {w : World} {base : Nat} {spare : Nat → Bool} {held : Bool} {fuel : Nat} {t : TypeId} {fs : Array Field} {cs : List Value} {x : DataW H × List MemPlace}
    (ht : P.underlying t = some (.struct fs)) (h : DataW.trod enc P w base spare held fuel t cs = some x) : cs.length = P.cellsOf t := by
  obtain ⟨xs, n, _, _, hl, _, _⟩ := DataW.trod_struct ht h
  exact hl

theorem take_one {c : Value} {cs : List Value} {o : Nat} (h : (cs.drop o).take 1 = [c]) : cs[o]? = some c := by
  have h2 := congrArg (fun l => l[0]?) h
  simpa using h2

/-- A field of a struct that is a number. -/
theorem trod_field_int {H : Type} {enc : TypeId × Value → H} {P : Program} {w : World} {base : Nat} {spare : Nat → Bool} {held : Bool} {fuel : Nat} {t ti : TypeId} {fs : Array Field} {cs : List Value} {x : DataW H × List MemPlace}
    (ht : P.underlying t = some (.struct fs)) (hu : P.underlying ti = some (.int .i64)) (hc : P.cellsOf ti = 1) (h : DataW.trod enc P w base spare held fuel t cs = some x) (i o : Nat) (hi : (fs[i]?).map (fun f => (f.type, f.offset)) = some (ti, o)) :
    ∃ z : Int, cs[o]? = some (.int .i64 z) ∧ (Lit.int .i64 z).wf = true := by
  obtain ⟨f, hf, he⟩ := Option.map_eq_some_iff.1 hi
  obtain ⟨n, y, hy⟩ := trod_field ht h i hf
  have e1 : f.type = ti := by cases he; rfl
  have e2 : f.offset = o := by cases he; rfl
  rw [e1, e2, hc] at hy
  obtain ⟨z, hz, _, hw⟩ := DataW.trod_int hu hy
  exact ⟨z, take_one hz, hw⟩

/-- A field of a struct that is a slice. -/
theorem trod_field_slice {H : Type} {enc : TypeId × Value → H} {P : Program} {w : World} {base : Nat} {spare : Nat → Bool} {held : Bool} {fuel : Nat} {t ti : TypeId} {fs : Array Field} {cs : List Value} {x : DataW H × List MemPlace}
    (ht : P.underlying t = some (.struct fs)) (hc : P.cellsOf ti = 1) (h : DataW.trod enc P w base spare held fuel t cs = some x) (i o : Nat) (hi : (fs[i]?).map (fun f => (f.type, f.offset)) = some (ti, o)) (ho : o < cs.length) :
    ∃ (c : Value) (n : Nat) (y : DataW H × List MemPlace), cs[o]? = some c ∧ DataW.trod enc P w base spare held n ti [c] = some y := by
  obtain ⟨f, hf, he⟩ := Option.map_eq_some_iff.1 hi
  obtain ⟨n, y, hy⟩ := trod_field ht h i hf
  have e1 : f.type = ti := by cases he; rfl
  have e2 : f.offset = o := by cases he; rfl
  rw [e1, e2, hc] at hy
  have h1 : (cs.drop o).take 1 = [cs[o]] := by
    rw [List.drop_eq_getElem_cons ho]
    rfl
  rw [h1] at hy
  exact ⟨cs[o], n, y, List.getElem?_eq_getElem ho, hy⟩

theorem cells_int : Tryz.prog.cellsOf 3 = 1 := by kernel_rfl

theorem list5 {cs : List Value} {v0 v1 v2 v3 v4 : Value} (hl : cs.length = 5) (h0 : cs[0]? = some v0) (h1 : cs[1]? = some v1) (h2 : cs[2]? = some v2) (h3 : cs[3]? = some v3) (h4 : cs[4]? = some v4) : cs = [v0, v1, v2, v3, v4] := by
  match cs, hl with
  | [c0, c1, c2, c3, c4], _ => simp_all
theorem list4 {cs : List Value} {v0 v1 v2 v3 : Value} (hl : cs.length = 4) (h0 : cs[0]? = some v0) (h1 : cs[1]? = some v1) (h2 : cs[2]? = some v2) (h3 : cs[3]? = some v3) : cs = [v0, v1, v2, v3] := by
  match cs, hl with
  | [c0, c1, c2, c3], _ => simp_all

theorem agg_of_cells {cs : Array Value} {l : List Value} (h : (Value.agg cs).cells.toList = l) : Value.agg cs = .agg l.toArray := by
  subst h
  rfl

end Go.Proofs.YtjcocpdicogecaaGreatDoor

namespace Go.Proofs.YtjcocpdicogecaaGreatDoor
open Go.ChangeShapes Go.WideShapes Go.ChangeAt Go.RowKit
set_option linter.unusedVariables false

theorem Bel.after {a b c : World} (h : Below a.heap.size a b) (k : Below b.heap.size b c) : Below a.heap.size a c := h.trans (k.mono h.size)

theorem Bel.alloc (w : World) (o : Obj) : Below w.heap.size w (w.alloc o) := (Below.refl _ _).alloc (Nat.le_refl _) o
/-- A cell of a new block, in a later world. -/
theorem box_cell {w w2 : World} {o : Obj} (h : Below (w.alloc o).heap.size (w.alloc o) w2) (j : Nat) : w2.cell? ⟨w.heap.size, j, none⟩ = (w.alloc o).cell? ⟨w.heap.size, j, none⟩ := h.cell (by simp)
theorem Bel.keeps {w w' : World} (h : Below w.heap.size w w') {p : Addr} {v : Value} (hc : w.cell? p = some v) : w'.cell? p = some v := by
  rw [h.cell (World.block_lt_of_cell? w _ hc)]
  exact hc

/-- Is it an op of words? -/
def wordOkV (op : Int) : Bool := decide (1 ≤ op ∧ op ≤ 10)
theorem wordOkV_yes {op : Int} (h1 : 1 ≤ op) (h2 : op ≤ 10) : wordOkV op = true := by simp [wordOkV, h1, h2]
theorem wordOkV_lo {op : Int} (h1 : ¬ 1 ≤ op) : wordOkV op = false := by simp [wordOkV, h1]
theorem wordOkV_hi {op : Int} (h1 : ¬ op ≤ 10) : wordOkV op = false := by simp [wordOkV, h1]

theorem spec_wordOk (op : Int) (w : World) :
    Calls Tryz.prog 46 #[.int .i64 op] w fun e w' => e = .returned (.bool (wordOkV op)) ∧ w' = w := by
  by_cases h1 : 1 ≤ op
  · by_cases h2 : op ≤ 10
    · rw [wordOkV_yes h1 h2]
      go_enter Tryz.func46, Tryz.ntmps46
      go_wp2
      go_ret
      exact ⟨rfl, rfl⟩
    · rw [wordOkV_hi h2]
      go_enter Tryz.func46, Tryz.ntmps46
      go_wp2
      go_ret
      exact ⟨rfl, rfl⟩
  · rw [wordOkV_lo h1]
    go_enter Tryz.func46, Tryz.ntmps46
    go_wp2
    go_ret
    exact ⟨rfl, rfl⟩

theorem impl_wordOk (op : Int) (w : World) :
    Calls Tryz.prog 67 #[.int .i64 op] w fun e w' => e = .returned (.bool (wordOkV op)) ∧ w' = w := by
  by_cases h1 : 1 ≤ op
  · by_cases h2 : op ≤ 10
    · rw [wordOkV_yes h1 h2]
      have h3 : op < 11 := by omega
      go_enter Tryz.func67, Tryz.ntmps67
      go_wp2
      go_ret
      exact ⟨rfl, rfl⟩
    · rw [wordOkV_hi h2]
      have h3 : ¬ op < 11 := by omega
      go_enter Tryz.func67, Tryz.ntmps67
      go_wp2
      go_ret
      exact ⟨rfl, rfl⟩
  · rw [wordOkV_lo h1]
    go_enter Tryz.func67, Tryz.ntmps67
    go_wp2
    go_ret
    exact ⟨rfl, rfl⟩

/-- A place, as a value. -/
def insV (op d a b n : Int) : Value := .agg #[.int .i64 op, .int .i64 d, .int .i64 a, .int .i64 b, .int .i64 n]

theorem op_cases (op : Int) : op = 20 ∨ op = 21 ∨ op = 22 ∨ op = 23 ∨ op = 24 ∨ op = 25 ∨ (((op == 20) = false ∧ (op == 21) = false ∧ (op == 22) = false ∧ (op == 23) = false ∧ (op == 24) = false ∧ (op == 25) = false) ∧ ((1 ≤ op ∧ op ≤ 10) ∨ ¬ 1 ≤ op ∨ (1 ≤ op ∧ ¬ op ≤ 10))) := by
  simp only [beq_eq_false_iff_ne, ne_eq]
  omega

/-- An assertion to a struct type, with its flag. -/
theorem assert_yes {P : Program} {t x : TypeId} {fs : Array Field} (hu : P.underlying t = some (.struct fs)) (v : Value) (w : World) : (Instr.typeAssert (.iface t v) x t true).run P w = .ok (.tuple #[v, .bool true]) w := by
  simp [Instr.typeAssert, run_underlying hu]
theorem assert_no {P : Program} {t x : TypeId} {fs : Array Field} {z : Value} (hu : P.underlying t = some (.struct fs)) (hz : (P.info? t).map (fun i => i.zero) = some (some z)) (t' : TypeId) (v : Value) (w : World) (hne : t' ≠ t) : (Instr.typeAssert (.iface t' v) x t true).run P w = .ok (.tuple #[z, .bool false]) w := by
  obtain ⟨j, hj, hz'⟩ := Option.map_eq_some_iff.1 hz
  simp [Instr.typeAssert, run_underlying hu, hne, zeroValue, typeInfo, hj, hz']
theorem assert_nil {P : Program} {t x : TypeId} {fs : Array Field} {z : Value} (hu : P.underlying t = some (.struct fs)) (hz : (P.info? t).map (fun i => i.zero) = some (some z)) (w : World) : (Instr.typeAssert .nilIface x t true).run P w = .ok (.tuple #[z, .bool false]) w := by
  obtain ⟨j, hj, hz'⟩ := Option.map_eq_some_iff.1 hz
  simp [Instr.typeAssert, run_underlying hu, zeroValue, typeInfo, hj, hz']

end Go.Proofs.YtjcocpdicogecaaGreatDoor

namespace Go.Proofs.YtjcocpdicogecaaGreatDoor
open Go.ChangeShapes Go.WideShapes Go.ChangeAt Go.RowKit
set_option linter.unusedVariables false

structure ArmD where
  fr : Int
  v : Int
structure PhiD where
  d : Int
  arms : List ArmD
structure InsD where
  op : Int
  d : Int
  a : Int
  b : Int
  n : Int
structure TermD where
  k : Int
  a : Int
  t : Int
  e : Int
structure BlockD where
  phis : List PhiD
  list : List InsD
  term : TermD
structure FnD where
  blocks : List BlockD
  values : Int

/-- What lies in blocks from lo on is as it was. -/
def Keeps (lo : Nat) (w w' : World) : Prop := ∀ p v, lo ≤ p.block → w.cell? p = some v → w'.cell? p = some v

theorem Keeps.of_below {w w' : World} (h : Below w.heap.size w w') (lo : Nat) : Keeps lo w w' := fun p v _ hc => Bel.keeps h hc
theorem Keeps.trans {lo : Nat} {a b c : World} (h : Keeps lo a b) (k : Keeps lo b c) : Keeps lo a c := fun p v hp hc => k p v hp (h p v hp hc)
theorem Keeps.setCell (w : World) (lo B o : Nat) (u : Value) (h : B < lo) : Keeps lo w (w.setCell ⟨B, o, none⟩ u) := fun p v hp hc => by
  rw [World.cell?_setCell_other _ _ _ _ (by intro e; rw [← e] at hp; exact absurd hp (by show ¬ lo ≤ B; omega))]
  exact hc
theorem Keeps.mono {lo lo' : Nat} {w w' : World} (h : Keeps lo w w') (hl : lo ≤ lo') : Keeps lo' w w' := fun p v hp hc => h p v (Nat.le_trans hl hp) hc

/-- A slice whose elements, of k cells each, lie in a block from lo on. -/
def ListAt {α : Type} (lo k : Nat) (E : World → Nat → Nat → α → Prop) (w : World) (v : Value) (l : List α) : Prop :=
  ∃ (a : Option Addr) (cap : Nat), v = .slice a l.length cap ∧ l.length ≤ 9223372036854775807 ∧ (0 < l.length → ∃ b off, a = some ⟨b, off, none⟩ ∧ lo ≤ b ∧ ∀ i x, l[i]? = some x → E w b (off + i * k) x)

theorem ListAt.keep {α : Type} {lo k : Nat} {E : World → Nat → Nat → α → Prop} {w w' : World} {v : Value} {l : List α} (h : ListAt lo k E w v l) (hE : ∀ b o x, lo ≤ b → E w b o x → E w' b o x) : ListAt lo k E w' v l := by
  obtain ⟨a, cap, rfl, hm, hc⟩ := h
  refine ⟨a, cap, rfl, hm, fun hp => ?_⟩
  obtain ⟨b, off, rfl, hb, hd⟩ := hc hp
  exact ⟨b, off, rfl, hb, fun i x hi => hE _ _ _ hb (hd i x hi)⟩

theorem ListAt.low {α : Type} {lo lo' k : Nat} {E E' : World → Nat → Nat → α → Prop} {w : World} {v : Value} {l : List α} (h : ListAt lo k E w v l) (hl : lo' ≤ lo) (hE : ∀ b o x, E w b o x → E' w b o x) : ListAt lo' k E' w v l := by
  obtain ⟨a, cap, rfl, hm, hc⟩ := h
  refine ⟨a, cap, rfl, hm, fun hp => ?_⟩
  obtain ⟨b, off, rfl, hb, hd⟩ := hc hp
  exact ⟨b, off, rfl, Nat.le_trans hl hb, fun i x hi => hE _ _ _ (hd i x hi)⟩

def ArmAt (w : World) (b o : Nat) (x : ArmD) : Prop := w.cell? ⟨b, o, none⟩ = some (.int .i64 x.fr) ∧ w.cell? ⟨b, o + 1, none⟩ = some (.int .i64 x.v)
def InsAt (w : World) (b o : Nat) (x : InsD) : Prop :=
  w.cell? ⟨b, o, none⟩ = some (.int .i64 x.op) ∧ w.cell? ⟨b, o + 1, none⟩ = some (.int .i64 x.d) ∧ w.cell? ⟨b, o + 2, none⟩ = some (.int .i64 x.a) ∧ w.cell? ⟨b, o + 3, none⟩ = some (.int .i64 x.b) ∧ w.cell? ⟨b, o + 4, none⟩ = some (.int .i64 x.n)
def PhiAt (lo : Nat) (w : World) (b o : Nat) (x : PhiD) : Prop :=
  w.cell? ⟨b, o, none⟩ = some (.int .i64 x.d) ∧ ∃ v, w.cell? ⟨b, o + 1, none⟩ = some v ∧ ListAt lo 2 ArmAt w v x.arms
def BlockAt (lo : Nat) (w : World) (b o : Nat) (x : BlockD) : Prop :=
  ∃ pv lv, w.cell? ⟨b, o, none⟩ = some pv ∧ w.cell? ⟨b, o + 1, none⟩ = some lv ∧ w.cell? ⟨b, o + 2, none⟩ = some (.int .i64 x.term.k) ∧ w.cell? ⟨b, o + 3, none⟩ = some (.int .i64 x.term.a) ∧ w.cell? ⟨b, o + 4, none⟩ = some (.int .i64 x.term.t) ∧ w.cell? ⟨b, o + 5, none⟩ = some (.int .i64 x.term.e) ∧
    ListAt lo 2 (PhiAt lo) w pv x.phis ∧ ListAt lo 5 InsAt w lv x.list
def FnAtLo (lo : Nat) (w : World) (v : Value) (F : FnD) : Prop := ∃ bv, v = .agg #[bv, .int .i64 F.values] ∧ ListAt lo 6 (BlockAt lo) w bv F.blocks
def FnAt (w : World) (v : Value) (F : FnD) : Prop := FnAtLo 0 w v F

theorem ArmAt.keep {lo : Nat} {w w' : World} {b o : Nat} {x : ArmD} (h : ArmAt w b o x) (hk : Keeps lo w w') (hb : lo ≤ b) : ArmAt w' b o x := ⟨hk _ _ hb h.1, hk _ _ hb h.2⟩
theorem InsAt.keep {lo : Nat} {w w' : World} {b o : Nat} {x : InsD} (h : InsAt w b o x) (hk : Keeps lo w w') (hb : lo ≤ b) : InsAt w' b o x :=
  ⟨hk _ _ hb h.1, hk _ _ hb h.2.1, hk _ _ hb h.2.2.1, hk _ _ hb h.2.2.2.1, hk _ _ hb h.2.2.2.2⟩
theorem arms_keep {lo : Nat} {w w' : World} {v : Value} {l : List ArmD} (h : ListAt lo 2 ArmAt w v l) (hk : Keeps lo w w') : ListAt lo 2 ArmAt w' v l := h.keep fun _ _ _ hb hx => hx.keep hk hb
theorem places_keep {lo : Nat} {w w' : World} {v : Value} {l : List InsD} (h : ListAt lo 5 InsAt w v l) (hk : Keeps lo w w') : ListAt lo 5 InsAt w' v l := h.keep fun _ _ _ hb hx => hx.keep hk hb
theorem PhiAt.keep {lo : Nat} {w w' : World} {b o : Nat} {x : PhiD} (h : PhiAt lo w b o x) (hk : Keeps lo w w') (hb : lo ≤ b) : PhiAt lo w' b o x := by
  obtain ⟨h1, v, h2, h3⟩ := h
  exact ⟨hk _ _ hb h1, v, hk _ _ hb h2, arms_keep h3 hk⟩
theorem phis_keep {lo : Nat} {w w' : World} {v : Value} {l : List PhiD} (h : ListAt lo 2 (PhiAt lo) w v l) (hk : Keeps lo w w') : ListAt lo 2 (PhiAt lo) w' v l := h.keep fun _ _ _ hb hx => hx.keep hk hb
theorem BlockAt.keep {lo : Nat} {w w' : World} {b o : Nat} {x : BlockD} (h : BlockAt lo w b o x) (hk : Keeps lo w w') (hb : lo ≤ b) : BlockAt lo w' b o x := by
  obtain ⟨pv, lv, h1, h2, h3, h4, h5, h6, h7, h8⟩ := h
  exact ⟨pv, lv, hk _ _ hb h1, hk _ _ hb h2, hk _ _ hb h3, hk _ _ hb h4, hk _ _ hb h5, hk _ _ hb h6, phis_keep h7 hk, places_keep h8 hk⟩
theorem blocks_keep {lo : Nat} {w w' : World} {v : Value} {l : List BlockD} (h : ListAt lo 6 (BlockAt lo) w v l) (hk : Keeps lo w w') : ListAt lo 6 (BlockAt lo) w' v l := h.keep fun _ _ _ hb hx => hx.keep hk hb
theorem FnAtLo.keep {lo : Nat} {w w' : World} {v : Value} {F : FnD} (h : FnAtLo lo w v F) (hk : Keeps lo w w') : FnAtLo lo w' v F := by
  obtain ⟨bv, hv, hb⟩ := h
  exact ⟨bv, hv, blocks_keep hb hk⟩
theorem FnAt.later {w w' : World} {v : Value} {F : FnD} (h : FnAt w v F) (hb : Below w.heap.size w w') : FnAt w' v F := FnAtLo.keep h (Keeps.of_below hb 0)

theorem PhiAt.low {lo lo' : Nat} (hl : lo' ≤ lo) {w : World} {b o : Nat} {x : PhiD} (h : PhiAt lo w b o x) : PhiAt lo' w b o x := by
  obtain ⟨h1, v, h2, h3⟩ := h
  exact ⟨h1, v, h2, h3.low hl fun _ _ _ hx => hx⟩
theorem BlockAt.low {lo lo' : Nat} (hl : lo' ≤ lo) {w : World} {b o : Nat} {x : BlockD} (h : BlockAt lo w b o x) : BlockAt lo' w b o x := by
  obtain ⟨pv, lv, h1, h2, h3, h4, h5, h6, h7, h8⟩ := h
  exact ⟨pv, lv, h1, h2, h3, h4, h5, h6, h7.low hl fun _ _ _ hx => hx.low hl, h8.low hl fun _ _ _ hx => hx⟩
theorem FnAtLo.low {lo lo' : Nat} (hl : lo' ≤ lo) {w : World} {v : Value} {F : FnD} (h : FnAtLo lo w v F) : FnAtLo lo' w v F := by
  obtain ⟨bv, hv, hb⟩ := h
  exact ⟨bv, hv, hb.low hl fun _ _ _ hx => hx.low hl⟩

/-! ### The laws' own Fn, read -/

theorem list_of {α : Type} {n : Nat} {Q : Nat → α → Prop} (h : ∀ i, i < n → ∃ x, Q i x) : ∃ l : List α, l.length = n ∧ ∀ i x, l[i]? = some x → Q i x := by
  induction n with
  | zero => exact ⟨[], rfl, fun i x hi => by simp at hi⟩
  | succ n ih =>
    obtain ⟨l, hl, hq⟩ := ih (fun i hi => h i (by omega))
    obtain ⟨x, hx⟩ := h n (by omega)
    refine ⟨l ++ [x], by simp [hl], fun i y hi => ?_⟩
    by_cases hin : i < n
    · rw [List.getElem?_append_left (by omega)] at hi
      exact hq i y hi
    · have hi2 : i < (l ++ [x]).length := by
        by_cases hlt : i < (l ++ [x]).length
        · exact hlt
        · rw [List.getElem?_eq_none (by omega)] at hi
          cases hi
      have e : i = n := by simp [hl] at hi2; omega
      subst e
      rw [List.getElem?_append_right (by omega)] at hi
      simp [hl] at hi
      subst hi
      exact hx

theorem readList {H : Type} {enc : TypeId × Value → H} {P : Program} {w : World} {base : Nat} {spare : Nat → Bool} {held : Bool} {fuel : Nat} {t e : TypeId} {v : Value} {y : DataW H × List MemPlace} {α : Type} {k : Nat} {E : World → Nat → Nat → α → Prop}
    (ht : P.underlying t = some (.slice e)) (hk : P.cellsOf e = k) (hpos : 0 < k)
    (hE : ∀ n cs y b o, DataW.trod enc P w base spare held n e cs = some y → (∀ i, i < k → w.cell? ⟨b, o + i, none⟩ = cs[i]?) → ∃ x, E w b o x)
    (h : DataW.trod enc P w base spare held fuel t [v] = some y) : ∃ l, ListAt 0 k E w v l := by
  rcases Go.Deep.open_slice ht h with ⟨hcs, _⟩ | ⟨a, len, cap, m, n, D, Pl, hcs, _, hl, hm, hmm, _, hel⟩
  · have hv : v = .slice none 0 0 := by simpa using hcs
    exact ⟨[], none, 0, hv, by simp, fun hp => absurd hp (by simp)⟩
  · have hv : v = .slice (some a) len cap := by simpa using hcs
    have hlm : len ≤ m := by rw [hmm]; split <;> omega
    rw [hk] at hel
    obtain ⟨b, off, spot⟩ := a
    have hcell : ∀ i, i < len → ∃ cs' : List Value, (∀ j, j < k → w.cell? ((Addr.mk b off spot).add (i * k + j)) = cs'[j]?) ∧ cs'.length = k ∧ DataW.trod enc P w base spare held n e cs' = some (D i, Pl i) := by
      intro i hi
      obtain ⟨cs', h1, h2⟩ := hel i (by omega)
      obtain ⟨_, h3, h4⟩ := World.cells?_some h1
      refine ⟨cs', fun j hj => ?_, h3, h2⟩
      rw [← Go.Deep.add_add]
      exact h4 j hj
    by_cases hl0 : len = 0
    · subst hl0
      exact ⟨[], some ⟨b, off, spot⟩, cap, hv, by simp, fun hp => absurd hp (by simp)⟩
    · have hspot : spot = none := by
        obtain ⟨cs', h1, h2, _⟩ := hcell 0 (by omega)
        have h3 := h1 0 (by omega)
        rw [List.getElem?_eq_getElem (by omega)] at h3
        simpa [Addr.add] using World.cell?_spot h3
      subst hspot
      have hall : ∀ i, i < len → ∃ x, E w b (off + i * k) x := by
        intro i hi
        obtain ⟨cs', h1, h2, h3⟩ := hcell i hi
        refine hE n cs' _ b (off + i * k) h3 (fun j hj => ?_)
        rw [← h1 j hj]
        congr 1
        unfold Addr.add
        split <;> simp_all [Nat.add_assoc]
      obtain ⟨l, hll, hlq⟩ := list_of hall
      refine ⟨l, some ⟨b, off, none⟩, cap, by rw [hll]; exact hv, by rw [hll]; unfold maxLen at hm; omega, fun _ => ⟨b, off, rfl, Nat.zero_le _, hlq⟩⟩

section
variable {H : Type} {enc : TypeId × Value → H} {w : World} {base : Nat} {spare : Nat → Bool} {held : Bool}

end

end Go.Proofs.YtjcocpdicogecaaGreatDoor

namespace Go.Proofs.YtjcocpdicogecaaGreatDoor
open Go.ChangeShapes Go.WideShapes Go.ChangeAt Go.RowKit
set_option linter.unusedVariables false

/-- A slice that reads as the numbers l. -/
def IntsAt (w : World) (v : Value) (l : List Int) : Prop :=
  ∃ (a : Option Addr) (cap : Nat), v = .slice a l.length cap ∧ l.length ≤ 9223372036854775807 ∧ (0 < l.length → ∃ b off, a = some ⟨b, off, none⟩ ∧ ∀ i, i < l.length → w.cell? ⟨b, off + i, none⟩ = some (.int .i64 (l.getD i 0)))

theorem IntsAt.keep {w w' : World} {v : Value} {l : List Int} (h : IntsAt w v l) (hb : Below w.heap.size w w') : IntsAt w' v l := by
  obtain ⟨a, cap, rfl, hm, hc⟩ := h
  refine ⟨a, cap, rfl, hm, fun hp => ?_⟩
  obtain ⟨b, off, rfl, hd⟩ := hc hp
  exact ⟨b, off, rfl, fun i hi => Bel.keeps hb (hd i hi)⟩

theorem take_next {l : List Int} {k : Nat} (hl : k < l.length) : l.take (k + 1) = l.take k ++ [l.getD k 0] := by
  rw [List.take_add_one]
  simp [hl]

/-- Two lists of one length whose first k are alike. -/
theorem lists_step {l m : List Int} {k : Nat} (hl : k < l.length) (hm : k < m.length) (h : l.take k = m.take k) (e : l.getD k 0 = m.getD k 0) : l.take (k + 1) = m.take (k + 1) := by
  rw [take_next hl, take_next hm, h, e]

theorem lists_differ {l m : List Int} {k : Nat} (e : ¬ l.getD k 0 = m.getD k 0) : decide (l = m) = false := by
  simp only [decide_eq_false_iff_not]
  rintro rfl
  exact e rfl

theorem lists_end {l m : List Int} {k : Nat} (hl : l.length = k) (hm : m.length = k) (h : l.take k = m.take k) : decide (l = m) = true := by
  simp only [decide_eq_true_eq]
  rw [List.take_of_length_le (by omega), List.take_of_length_le (by omega)] at h
  exact h

set_option maxHeartbeats 1000000 in
theorem eqIntS_any (va vb : Value) (l m : List Int) (w : World) (ha : IntsAt w va l) (hb : IntsAt w vb m) :
    Calls Tryz.prog 13 #[va, vb] w fun e w' => e = .returned (.bool (decide (l = m))) ∧ Below w.heap.size w w' := by
  obtain ⟨aa, ca, rfl, hma, hca⟩ := ha
  obtain ⟨ab, cb, rfl, hmb, hcb⟩ := hb
  obtain ⟨n, HN⟩ : ∃ n, Hid (l.length = n) := ⟨_, rfl⟩
  obtain ⟨n', HN'⟩ : ∃ n, Hid (m.length = n) := ⟨_, rfl⟩
  rw [HN.out] at hma hca ⊢
  rw [HN'.out] at hmb hcb ⊢
  have HA : Hid (0 < n → ∃ b off, aa = some ⟨b, off, none⟩ ∧ ∀ i, i < n → w.cell? ⟨b, off + i, none⟩ = some (.int .i64 (l.getD i 0))) := hca
  have HB : Hid (0 < n' → ∃ b off, ab = some ⟨b, off, none⟩ ∧ ∀ i, i < n' → w.cell? ⟨b, off + i, none⟩ = some (.int .i64 (m.getD i 0))) := hcb
  clear hca hcb
  by_cases hlen : n = n'
  · have HL : Hid (n = n') := hlen
    have hne : ((n : Int) != (n' : Int)) = false := by simp [hlen]
    clear hlen
    go_enter Tryz.func13, Tryz.ntmps13
    go_wp2
    go_loopw [5] (fun i wr => ∃ k : Nat, k ≤ n ∧ i = .int .i64 k ∧ l.take k = m.take k ∧ Below w.heap.size w wr) (fun i _ => n - (intOf i).toNat)
    case atStart => exact ⟨0, Nat.zero_le _, rfl, by simp, Below.refl _ _⟩
    case round =>
      obtain ⟨k, hk, rfl, htk, hb3⟩ := hrel
      have HT : Hid (l.take k = m.take k) := htk
      have HBel : Hid (Below w.heap.size w wr) := hb3
      clear htk hb3
      by_cases hlt : (k : Int) < (n : Int)
      · obtain ⟨b, off, rfl, hc1⟩ := HA.out (by omega)
        obtain ⟨b', off', rfl, hc2⟩ := HB.out (by have := HL.out; omega)
        obtain ⟨x, HX⟩ : ∃ x, Hid (l.getD k 0 = x) := ⟨_, rfl⟩
        obtain ⟨y, HY⟩ : ∃ y, Hid (m.getD k 0 = y) := ⟨_, rfl⟩
        have q1 := Bel.keeps HBel.out (hc1 k (by omega))
        have q2 := Bel.keeps HBel.out (hc2 k (by have := HL.out; omega))
        rw [HX.out] at q1
        rw [HY.out] at q2
        have hlt' : k < n' := by have := HL.out; omega
        clear hc1 hc2
        by_cases he : x = y
        · have hne2 : (x != y) = false := by simp [he]
          have HE : Hid (x = y) := he
          clear he
          go_wp2
          go_quiet (fail)
          go_wp2
          go_roundw
          case rel => exact ⟨k + 1, by omega, by go_num, lists_step (by have := HN.out; omega) (by have := HN'.out; omega) HT.out (by rw [HX.out, HY.out]; exact HE.out), HBel.out.trans ⟨rfl, rfl, rfl, Nat.le_refl _, fun _ _ => rfl⟩⟩
          case measure => simp [intOf]; omega
        · have hne2 : (x != y) = true := by simpa using he
          have HE : Hid (¬ x = y) := he
          clear he
          go_wp2
          go_quiet (fail)
          go_wp2
          go_ret
          exact ⟨by rw [lists_differ (k := k) (l := l) (m := m) (by rw [HX.out, HY.out]; exact HE.out)]; rfl, HBel.out.trans ⟨rfl, rfl, rfl, Nat.le_refl _, fun _ _ => rfl⟩⟩
      · have hkn : k = n := by omega
        have hd : decide (l = m) = true := lists_end (k := k) (by have := HN.out; omega) (by have := HN'.out; have := HL.out; omega) HT.out
        have HD : Hid (decide (l = m) = true) := hd
        clear hkn hd
        go_wp2
        go_ret
        exact ⟨by rw [HD.out]; rfl, HBel.out⟩
  · have hd : decide (l = m) = false := by
      simp only [decide_eq_false_iff_not]
      rintro rfl
      exact hlen (HN.out.symm.trans HN'.out)
    rw [hd]
    have hne : ((n : Int) != (n' : Int)) = true := by simp; omega
    clear hlen hd
    go_enter Tryz.func13, Tryz.ntmps13
    go_wp2
    go_ret
    exact ⟨rfl, Below.refl _ _⟩


/-- A row of numbers that lies in block b from its start: it can be written. -/
def RowNew (w : World) (b : Nat) (v : Value) (l : List Int) : Prop :=
  v = .slice (some ⟨b, 0, none⟩) l.length l.length ∧ l.length ≤ 9223372036854775807 ∧ b < w.heap.size ∧ (∀ i, i < l.length → w.cell? ⟨b, i, none⟩ = some (.int .i64 (l.getD i 0))) ∧ ∀ i, i < l.length → w.frozen? ⟨b, i, none⟩ = false

theorem RowNew.at {w : World} {b : Nat} {v : Value} {l : List Int} (h : RowNew w b v l) : IntsAt w v l := by
  obtain ⟨rfl, hm, hb, hc, hf⟩ := h
  exact ⟨_, _, rfl, hm, fun _ => ⟨b, 0, rfl, fun i hi => by simpa using hc i hi⟩⟩

theorem RowNew.keep {w w' : World} {b : Nat} {v : Value} {l : List Int} (h : RowNew w b v l) (hb : Below w.heap.size w w') : RowNew w' b v l := by
  obtain ⟨rfl, hm, hlt, hc, hf⟩ := h
  refine ⟨rfl, hm, Nat.lt_of_lt_of_le hlt hb.size, fun i hi => Bel.keeps hb (hc i hi), fun i hi => ?_⟩
  rw [hb.frozen (p := ⟨b, i, none⟩) hlt]
  exact hf i hi

/-- Nothing that was there has turned but block p. -/
structure FrB (p : Nat) (w w' : World) : Prop where
  os : w'.os = w.os
  tape : w'.tape = w.tape
  output : w'.output = w.output
  size : w.heap.size ≤ w'.heap.size
  block : ∀ k, k < w.heap.size → k ≠ p → w'.heap[k]? = w.heap[k]?

theorem FrB.refl (p : Nat) (w : World) : FrB p w w := ⟨rfl, rfl, rfl, Nat.le_refl _, fun _ _ _ => rfl⟩
theorem FrB.trans {p : Nat} {a b c : World} (h : FrB p a b) (k : FrB p b c) : FrB p a c :=
  ⟨k.os.trans h.os, k.tape.trans h.tape, k.output.trans h.output, Nat.le_trans h.size k.size, fun i hi hp => (k.block i (Nat.lt_of_lt_of_le hi h.size) hp).trans (h.block i hi hp)⟩
theorem FrB.setCell {p : Nat} {a w : World} (h : FrB p a w) (o : Nat) (u : Value) : FrB p a (w.setCell ⟨p, o, none⟩ u) :=
  h.trans ⟨rfl, rfl, rfl, by simp [World.setCell], fun k _ hp => Below.heap_setCell _ _ _ _ hp⟩
theorem FrB.below {p B : Nat} {a w : World} (h : FrB p a w) (hp : B ≤ p) (hB : B ≤ a.heap.size) : Below B a w :=
  ⟨h.os, h.tape, h.output, h.size, fun k hk => h.block k (by omega) (by omega)⟩
theorem FrB.ofBelow {p : Nat} {a w : World} (h : Below a.heap.size a w) : FrB p a w :=
  ⟨h.os, h.tape, h.output, h.size, fun k hk _ => h.block k hk⟩
theorem FrB.cell {p : Nat} {a w : World} (h : FrB p a w) {x : Addr} (hx : x.block < a.heap.size) (hp : x.block ≠ p) : w.cell? x = a.cell? x := World.cell?_of_block (w := a) (h.block x.block hx hp)
theorem FrB.frozen {p : Nat} {a w : World} (h : FrB p a w) {x : Addr} (hx : x.block < a.heap.size) (hp : x.block ≠ p) : w.frozen? x = a.frozen? x := World.frozen?_of_block (w := a) (h.block x.block hx hp)

theorem RowNew.aside {w w' : World} {b p : Nat} {v : Value} {l : List Int} (h : RowNew w b v l) (hb : FrB p w w') (hp : b ≠ p) : RowNew w' b v l := by
  obtain ⟨rfl, hm, hlt, hc, hf⟩ := h
  refine ⟨rfl, hm, Nat.lt_of_lt_of_le hlt hb.size, fun i hi => ?_, fun i hi => ?_⟩
  · rw [hb.cell (x := ⟨b, i, none⟩) hlt hp]
    exact hc i hi
  · rw [hb.frozen (x := ⟨b, i, none⟩) hlt hp]
    exact hf i hi

/-- The numbers from k on. -/
def marks (k : Int) (n : Nat) : List Int := (List.range n).map (fun (i : Nat) => k + (i : Int))
theorem marks_len (k : Int) (n : Nat) : (marks k n).length = n := by simp [marks]
theorem marks_at (k : Int) (n i : Nat) (h : i < n) : (marks k n).getD i 0 = k + (i : Int) := by simp [marks, List.getD, h]

set_option maxHeartbeats 1000000 in
theorem markIntS_any (b : Nat) (v : Value) (l : List Int) (q : Int) (w : World) (hr : RowNew w b v l) (hq : 0 ≤ q) (hq2 : q + l.length ≤ 9223372036854775807) :
    Calls Tryz.prog 14 #[v, .int .i64 q] w fun e w' => e = .returned (.int .i64 (q + l.length)) ∧ FrB b w w' ∧ RowNew w' b v (marks q l.length) := by
  obtain ⟨rfl, hm, hlt, hc, hf⟩ := hr
  obtain ⟨n, HN⟩ : ∃ n, Hid (l.length = n) := ⟨_, rfl⟩
  rw [HN.out] at hm hq2 hc hf ⊢
  have HC : Hid (∀ i, i < n → w.cell? ⟨b, i, none⟩ = some (.int .i64 (l.getD i 0))) := hc
  have HF : Hid (∀ i, i < n → w.frozen? ⟨b, i, none⟩ = false) := hf
  clear hc hf
  go_enter Tryz.func14, Tryz.ntmps14
  go_wp2
  go_loopw [1, 5] (fun kv i wr => ∃ k : Nat, k ≤ n ∧ i = .int .i64 k ∧ kv = .int .i64 (q + k) ∧ FrB b w wr ∧ (∀ j, j < k → wr.cell? ⟨b, j, none⟩ = some (.int .i64 (q + j))) ∧ (∀ j, k ≤ j → j < n → ∃ x, wr.cell? ⟨b, j, none⟩ = some (.int .i64 x)) ∧ (∀ j, j < n → wr.frozen? ⟨b, j, none⟩ = false)) (fun _ i _ => n - (intOf i).toNat)
  case atStart => exact ⟨0, Nat.zero_le _, rfl, by go_num, FrB.refl _ _, by omega, fun j _ hj => ⟨_, HC.out j hj⟩, HF.out⟩
  case round =>
    obtain ⟨k, hk, rfl, rfl, hfr, hdone, hleft, hfz⟩ := hrel
    have H1 : Hid (FrB b w wr) := hfr
    have H2 : Hid (∀ j, j < k → wr.cell? ⟨b, j, none⟩ = some (.int .i64 (q + j))) := hdone
    have H3 : Hid (∀ j, k ≤ j → j < n → ∃ x, wr.cell? ⟨b, j, none⟩ = some (.int .i64 x)) := hleft
    have H4 : Hid (∀ j, j < n → wr.frozen? ⟨b, j, none⟩ = false) := hfz
    clear hfr hdone hleft hfz
    by_cases hlt2 : (k : Int) < (n : Int)
    · obtain ⟨x, q1⟩ := H3.out k (Nat.le_refl _) (by omega)
      have q2 := H4.out k (by omega)
      go_wp2
      go_roundw
      case rel =>
        refine ⟨k + 1, by omega, by go_num, by go_num, H1.out.setCell _ _, fun j hj => ?_, fun j hj hj2 => ?_, fun j hj => ?_⟩
        · by_cases hjk : j = k
          · subst hjk
            exact World.cell?_setCell_same _ _ _ q1
          · rw [World.cell?_setCell_other _ _ _ _ (by simp <;> omega)]
            exact H2.out j (by omega)
        · rw [World.cell?_setCell_other _ _ _ _ (by simp <;> omega)]
          exact H3.out j (by omega) hj2
        · simpa using H4.out j hj
      case measure => simp [intOf]; omega
    · have hkn : k = n := by omega
      subst hkn
      go_wp2
      go_ret
      refine ⟨rfl, H1.out, by rw [marks_len], by rw [marks_len]; exact hm, Nat.lt_of_lt_of_le hlt H1.out.size, fun i hi => ?_, fun i hi => ?_⟩
      · rw [marks_len] at hi
        rw [marks_at _ _ _ hi]
        exact H2.out i hi
      · rw [marks_len] at hi
        exact H4.out i hi

set_option maxHeartbeats 1000000 in
theorem heldIntS_any (v : Value) (n : Nat) (q : Int) (w : World) (hr : IntsAt w v (marks q n)) (hq : 0 ≤ q) (hq2 : q + n ≤ 9223372036854775807) :
    Calls Tryz.prog 15 #[v, .int .i64 q] w fun e w' => e = .returned (.int .i64 (q + n)) ∧ w' = w := by
  obtain ⟨a, cap, rfl, hm, hc⟩ := hr
  rw [marks_len] at hm hc ⊢
  have HC : Hid (0 < n → ∃ b off, a = some ⟨b, off, none⟩ ∧ ∀ i, i < n → w.cell? ⟨b, off + i, none⟩ = some (.int .i64 ((marks q n).getD i 0))) := hc
  clear hc
  go_enter Tryz.func15, Tryz.ntmps15
  go_wp2
  go_loop [1, 5] (fun kv i => ∃ k : Nat, k ≤ n ∧ i = .int .i64 k ∧ kv = .int .i64 (q + k)) (fun _ i => n - (intOf i).toNat)
  case atStart => exact ⟨0, Nat.zero_le _, rfl, by go_num⟩
  case round =>
    obtain ⟨k, hk, rfl, rfl⟩ := hrel
    by_cases hlt2 : (k : Int) < (n : Int)
    · obtain ⟨b, off, rfl, hc1⟩ := HC.out (by omega)
      have q1 := hc1 k (by omega)
      rw [marks_at _ _ _ (by omega)] at q1
      clear hc1
      go_wp2
      go_round
      case rel => exact ⟨k + 1, by omega, by go_num, by go_num⟩
      case measure => simp [intOf]; omega
    · have hkn : k = n := by omega
      subst hkn
      go_wp2
      go_ret
      exact ⟨rfl, rfl⟩
end Go.Proofs.YtjcocpdicogecaaGreatDoor

namespace Go.Proofs.YtjcocpdicogecaaGreatDoor
open Go.ChangeShapes Go.WideShapes Go.ChangeAt Go.RowKit
set_option linter.unusedVariables false

theorem rowNew0 (w : World) (t : TypeId) (B : Nat) (hB : B = w.heap.size) : RowNew (w.alloc (.cells #[] t)) B (.slice (some ⟨B, 0, none⟩) 0 0) [] := by
  subst hB
  exact ⟨rfl, by simp, by simp, fun i hi => absurd hi (by simp), fun i hi => absurd hi (by simp)⟩
theorem rowNew1 (w : World) (t : TypeId) (a : Int) (B : Nat) (hB : B = w.heap.size) : RowNew (w.alloc (.cells #[.int .i64 a] t)) B (.slice (some ⟨B, 0, none⟩) 1 1) [a] := by
  subst hB
  refine ⟨rfl, by simp, by simp, fun i hi => ?_, fun i hi => ?_⟩
  all_goals
    simp at hi
    subst hi
    simp
theorem rowNew2 (w : World) (t : TypeId) (a b : Int) (B : Nat) (hB : B = w.heap.size) : RowNew (w.alloc (.cells #[.int .i64 a, .int .i64 b] t)) B (.slice (some ⟨B, 0, none⟩) 2 2) [a, b] := by
  subst hB
  refine ⟨rfl, by simp, by simp, fun i hi => ?_, fun i hi => ?_⟩
  all_goals
    have hi' : i = 0 ∨ i = 1 := by simp at hi; omega
    rcases hi' with rfl | rfl
    · simp
    · simp

/-- A list of numbers is returned, in new memory. -/
def GivesInts (w : World) (l : List Int) (e : Ending) (w' : World) : Prop := ∃ v k, e = .returned v ∧ w.heap.size ≤ k ∧ RowNew w' k v l ∧ Below w.heap.size w w'

/-- Which values a place takes. -/
def usesV (op a b : Int) : List Int := if (1 ≤ op ∧ op ≤ 10) ∨ op = 22 then [a, b] else if op = 21 ∨ op = 23 ∨ op = 25 then [a] else []
theorem usesV_word {op a b : Int} (h : 1 ≤ op) (h1 : op ≤ 10) : usesV op a b = [a, b] := by simp [usesV, h, h1]
theorem usesV_none {op a b : Int} (e0 : (op == 20) = false) (e1 : (op == 21) = false) (e2 : (op == 22) = false) (e3 : (op == 23) = false) (e4 : (op == 24) = false) (e5 : (op == 25) = false) (h : ¬ (1 ≤ op ∧ op ≤ 10)) : usesV op a b = [] := by
  simp only [beq_eq_false_iff_ne, ne_eq] at e0 e1 e2 e3 e4 e5
  simp only [usesV, e1, e2, e3, e5, h, or_self, if_false]

/-- Which values an end takes. -/
def endsV (k a : Int) : List Int := if k = 2 ∨ k = 3 then [a] else []

theorem usesV_forms (op a b : Int) : usesV op a b = [a, b] ∨ usesV op a b = [a] ∨ usesV op a b = [] := by
  unfold usesV
  split
  · exact .inl rfl
  · split
    · exact .inr (.inl rfl)
    · exact .inr (.inr rfl)
theorem endsV_forms (k a : Int) : endsV k a = [a] ∨ endsV k a = [] := by
  unfold endsV
  split
  · exact .inl rfl
  · exact .inr rfl

/-- A place that lies in block B. -/
def InsBox (w : World) (B : Nat) (op d a b n : Int) : Prop :=
  w.cell? ⟨B, 0, none⟩ = some (.int .i64 op) ∧ w.cell? ⟨B, 1, none⟩ = some (.int .i64 d) ∧ w.cell? ⟨B, 2, none⟩ = some (.int .i64 a) ∧ w.cell? ⟨B, 3, none⟩ = some (.int .i64 b) ∧ w.cell? ⟨B, 4, none⟩ = some (.int .i64 n)
theorem InsBox.keep {w w' : World} {B : Nat} {op d a b n : Int} (h : InsBox w B op d a b n) (hb : Below w.heap.size w w') : InsBox w' B op d a b n :=
  ⟨Bel.keeps hb h.1, Bel.keeps hb h.2.1, Bel.keeps hb h.2.2.1, Bel.keeps hb h.2.2.2.1, Bel.keeps hb h.2.2.2.2⟩
theorem insBox_new (w : World) (t : TypeId) (op d a b n : Int) : InsBox (w.alloc (.cells #[.int .i64 op, .int .i64 d, .int .i64 a, .int .i64 b, .int .i64 n] t)) w.heap.size op d a b n :=
  ⟨by simp, by simp, by simp, by simp, by simp⟩
/-- An end that lies in block B. -/
def TermBox (w : World) (B : Nat) (k a t e : Int) : Prop :=
  w.cell? ⟨B, 0, none⟩ = some (.int .i64 k) ∧ w.cell? ⟨B, 1, none⟩ = some (.int .i64 a) ∧ w.cell? ⟨B, 2, none⟩ = some (.int .i64 t) ∧ w.cell? ⟨B, 3, none⟩ = some (.int .i64 e)
theorem TermBox.keep {w w' : World} {B : Nat} {k a t e : Int} (h : TermBox w B k a t e) (hb : Below w.heap.size w w') : TermBox w' B k a t e :=
  ⟨Bel.keeps hb h.1, Bel.keeps hb h.2.1, Bel.keeps hb h.2.2.1, Bel.keeps hb h.2.2.2⟩
theorem termBox_new (w : World) (ty : TypeId) (k a t e : Int) : TermBox (w.alloc (.cells #[.int .i64 k, .int .i64 a, .int .i64 t, .int .i64 e] ty)) w.heap.size k a t e :=
  ⟨by simp, by simp, by simp, by simp⟩
end Go.Proofs.YtjcocpdicogecaaGreatDoor
