/- Programs in memory: what a value of type Fn reads as, kept while the world only grows; the laws' own Fn, read. -/
import Derived.Test.YtgjojajodkagbaaOpen
import Derived.Test.YtgjojajodkagbaaIns
import Derived.Below
import Derived.Deep.Slices
namespace Go.Proofs.Ytgjojajodkagbaa
open Go.ChangeShapes Go.WideShapes Go.ChangeAt Go.RowKit
set_option linter.unusedVariables false

structure ArmD where
  fr : Int
  v : Int
structure PhiD where
  d : Int
  arms : List ArmD
structure InsD where
  op : Int
  d : Int
  a : Int
  b : Int
  n : Int
structure TermD where
  k : Int
  a : Int
  t : Int
  e : Int
structure BlockD where
  phis : List PhiD
  list : List InsD
  term : TermD
structure FnD where
  blocks : List BlockD
  values : Int

/-- What lies in blocks from lo on is as it was. -/
def Keeps (lo : Nat) (w w' : World) : Prop := ∀ p v, lo ≤ p.block → w.cell? p = some v → w'.cell? p = some v

theorem Keeps.of_below {w w' : World} (h : Below w.heap.size w w') (lo : Nat) : Keeps lo w w' := fun p v _ hc => Bel.keeps h hc
theorem Keeps.trans {lo : Nat} {a b c : World} (h : Keeps lo a b) (k : Keeps lo b c) : Keeps lo a c := fun p v hp hc => k p v hp (h p v hp hc)
theorem Keeps.setCell (w : World) (lo B o : Nat) (u : Value) (h : B < lo) : Keeps lo w (w.setCell ⟨B, o, none⟩ u) := fun p v hp hc => by
  rw [World.cell?_setCell_other _ _ _ _ (by intro e; rw [← e] at hp; exact absurd hp (by show ¬ lo ≤ B; omega))]
  exact hc
theorem Keeps.mono {lo lo' : Nat} {w w' : World} (h : Keeps lo w w') (hl : lo ≤ lo') : Keeps lo' w w' := fun p v hp hc => h p v (Nat.le_trans hl hp) hc

/-- A slice whose elements, of k cells each, lie in a block from lo on. -/
def ListAt {α : Type} (lo k : Nat) (E : World → Nat → Nat → α → Prop) (w : World) (v : Value) (l : List α) : Prop :=
  ∃ (a : Option Addr) (cap : Nat), v = .slice a l.length cap ∧ l.length ≤ 9223372036854775807 ∧ (0 < l.length → ∃ b off, a = some ⟨b, off, none⟩ ∧ lo ≤ b ∧ ∀ i x, l[i]? = some x → E w b (off + i * k) x)

theorem ListAt.keep {α : Type} {lo k : Nat} {E : World → Nat → Nat → α → Prop} {w w' : World} {v : Value} {l : List α} (h : ListAt lo k E w v l) (hE : ∀ b o x, lo ≤ b → E w b o x → E w' b o x) : ListAt lo k E w' v l := by
  obtain ⟨a, cap, rfl, hm, hc⟩ := h
  refine ⟨a, cap, rfl, hm, fun hp => ?_⟩
  obtain ⟨b, off, rfl, hb, hd⟩ := hc hp
  exact ⟨b, off, rfl, hb, fun i x hi => hE _ _ _ hb (hd i x hi)⟩

theorem ListAt.low {α : Type} {lo lo' k : Nat} {E E' : World → Nat → Nat → α → Prop} {w : World} {v : Value} {l : List α} (h : ListAt lo k E w v l) (hl : lo' ≤ lo) (hE : ∀ b o x, E w b o x → E' w b o x) : ListAt lo' k E' w v l := by
  obtain ⟨a, cap, rfl, hm, hc⟩ := h
  refine ⟨a, cap, rfl, hm, fun hp => ?_⟩
  obtain ⟨b, off, rfl, hb, hd⟩ := hc hp
  exact ⟨b, off, rfl, Nat.le_trans hl hb, fun i x hi => hE _ _ _ (hd i x hi)⟩

def ArmAt (w : World) (b o : Nat) (x : ArmD) : Prop := w.cell? ⟨b, o, none⟩ = some (.int .i64 x.fr) ∧ w.cell? ⟨b, o + 1, none⟩ = some (.int .i64 x.v)
def InsAt (w : World) (b o : Nat) (x : InsD) : Prop :=
  w.cell? ⟨b, o, none⟩ = some (.int .i64 x.op) ∧ w.cell? ⟨b, o + 1, none⟩ = some (.int .i64 x.d) ∧ w.cell? ⟨b, o + 2, none⟩ = some (.int .i64 x.a) ∧ w.cell? ⟨b, o + 3, none⟩ = some (.int .i64 x.b) ∧ w.cell? ⟨b, o + 4, none⟩ = some (.int .i64 x.n)
def PhiAt (lo : Nat) (w : World) (b o : Nat) (x : PhiD) : Prop :=
  w.cell? ⟨b, o, none⟩ = some (.int .i64 x.d) ∧ ∃ v, w.cell? ⟨b, o + 1, none⟩ = some v ∧ ListAt lo 2 ArmAt w v x.arms
def BlockAt (lo : Nat) (w : World) (b o : Nat) (x : BlockD) : Prop :=
  ∃ pv lv, w.cell? ⟨b, o, none⟩ = some pv ∧ w.cell? ⟨b, o + 1, none⟩ = some lv ∧ w.cell? ⟨b, o + 2, none⟩ = some (.int .i64 x.term.k) ∧ w.cell? ⟨b, o + 3, none⟩ = some (.int .i64 x.term.a) ∧ w.cell? ⟨b, o + 4, none⟩ = some (.int .i64 x.term.t) ∧ w.cell? ⟨b, o + 5, none⟩ = some (.int .i64 x.term.e) ∧
    ListAt lo 2 (PhiAt lo) w pv x.phis ∧ ListAt lo 5 InsAt w lv x.list
def FnAtLo (lo : Nat) (w : World) (v : Value) (F : FnD) : Prop := ∃ bv, v = .agg #[bv, .int .i64 F.values] ∧ ListAt lo 6 (BlockAt lo) w bv F.blocks
def FnAt (w : World) (v : Value) (F : FnD) : Prop := FnAtLo 0 w v F

theorem ArmAt.keep {lo : Nat} {w w' : World} {b o : Nat} {x : ArmD} (h : ArmAt w b o x) (hk : Keeps lo w w') (hb : lo ≤ b) : ArmAt w' b o x := ⟨hk _ _ hb h.1, hk _ _ hb h.2⟩
theorem InsAt.keep {lo : Nat} {w w' : World} {b o : Nat} {x : InsD} (h : InsAt w b o x) (hk : Keeps lo w w') (hb : lo ≤ b) : InsAt w' b o x :=
  ⟨hk _ _ hb h.1, hk _ _ hb h.2.1, hk _ _ hb h.2.2.1, hk _ _ hb h.2.2.2.1, hk _ _ hb h.2.2.2.2⟩
theorem arms_keep {lo : Nat} {w w' : World} {v : Value} {l : List ArmD} (h : ListAt lo 2 ArmAt w v l) (hk : Keeps lo w w') : ListAt lo 2 ArmAt w' v l := h.keep fun _ _ _ hb hx => hx.keep hk hb
theorem places_keep {lo : Nat} {w w' : World} {v : Value} {l : List InsD} (h : ListAt lo 5 InsAt w v l) (hk : Keeps lo w w') : ListAt lo 5 InsAt w' v l := h.keep fun _ _ _ hb hx => hx.keep hk hb
theorem PhiAt.keep {lo : Nat} {w w' : World} {b o : Nat} {x : PhiD} (h : PhiAt lo w b o x) (hk : Keeps lo w w') (hb : lo ≤ b) : PhiAt lo w' b o x := by
  obtain ⟨h1, v, h2, h3⟩ := h
  exact ⟨hk _ _ hb h1, v, hk _ _ hb h2, arms_keep h3 hk⟩
theorem phis_keep {lo : Nat} {w w' : World} {v : Value} {l : List PhiD} (h : ListAt lo 2 (PhiAt lo) w v l) (hk : Keeps lo w w') : ListAt lo 2 (PhiAt lo) w' v l := h.keep fun _ _ _ hb hx => hx.keep hk hb
theorem BlockAt.keep {lo : Nat} {w w' : World} {b o : Nat} {x : BlockD} (h : BlockAt lo w b o x) (hk : Keeps lo w w') (hb : lo ≤ b) : BlockAt lo w' b o x := by
  obtain ⟨pv, lv, h1, h2, h3, h4, h5, h6, h7, h8⟩ := h
  exact ⟨pv, lv, hk _ _ hb h1, hk _ _ hb h2, hk _ _ hb h3, hk _ _ hb h4, hk _ _ hb h5, hk _ _ hb h6, phis_keep h7 hk, places_keep h8 hk⟩
theorem blocks_keep {lo : Nat} {w w' : World} {v : Value} {l : List BlockD} (h : ListAt lo 6 (BlockAt lo) w v l) (hk : Keeps lo w w') : ListAt lo 6 (BlockAt lo) w' v l := h.keep fun _ _ _ hb hx => hx.keep hk hb
theorem FnAtLo.keep {lo : Nat} {w w' : World} {v : Value} {F : FnD} (h : FnAtLo lo w v F) (hk : Keeps lo w w') : FnAtLo lo w' v F := by
  obtain ⟨bv, hv, hb⟩ := h
  exact ⟨bv, hv, blocks_keep hb hk⟩
theorem FnAt.later {w w' : World} {v : Value} {F : FnD} (h : FnAt w v F) (hb : Below w.heap.size w w') : FnAt w' v F := FnAtLo.keep h (Keeps.of_below hb 0)

theorem PhiAt.low {lo lo' : Nat} (hl : lo' ≤ lo) {w : World} {b o : Nat} {x : PhiD} (h : PhiAt lo w b o x) : PhiAt lo' w b o x := by
  obtain ⟨h1, v, h2, h3⟩ := h
  exact ⟨h1, v, h2, h3.low hl fun _ _ _ hx => hx⟩
theorem BlockAt.low {lo lo' : Nat} (hl : lo' ≤ lo) {w : World} {b o : Nat} {x : BlockD} (h : BlockAt lo w b o x) : BlockAt lo' w b o x := by
  obtain ⟨pv, lv, h1, h2, h3, h4, h5, h6, h7, h8⟩ := h
  exact ⟨pv, lv, h1, h2, h3, h4, h5, h6, h7.low hl fun _ _ _ hx => hx.low hl, h8.low hl fun _ _ _ hx => hx⟩
theorem FnAtLo.low {lo lo' : Nat} (hl : lo' ≤ lo) {w : World} {v : Value} {F : FnD} (h : FnAtLo lo w v F) : FnAtLo lo' w v F := by
  obtain ⟨bv, hv, hb⟩ := h
  exact ⟨bv, hv, hb.low hl fun _ _ _ hx => hx.low hl⟩

/-! ### The laws' own Fn, read -/

theorem list_of {α : Type} {n : Nat} {Q : Nat → α → Prop} (h : ∀ i, i < n → ∃ x, Q i x) : ∃ l : List α, l.length = n ∧ ∀ i x, l[i]? = some x → Q i x := by
  induction n with
  | zero => exact ⟨[], rfl, fun i x hi => by simp at hi⟩
  | succ n ih =>
    obtain ⟨l, hl, hq⟩ := ih (fun i hi => h i (by omega))
    obtain ⟨x, hx⟩ := h n (by omega)
    refine ⟨l ++ [x], by simp [hl], fun i y hi => ?_⟩
    by_cases hin : i < n
    · rw [List.getElem?_append_left (by omega)] at hi
      exact hq i y hi
    · have hi2 : i < (l ++ [x]).length := by
        by_cases hlt : i < (l ++ [x]).length
        · exact hlt
        · rw [List.getElem?_eq_none (by omega)] at hi
          cases hi
      have e : i = n := by simp [hl] at hi2; omega
      subst e
      rw [List.getElem?_append_right (by omega)] at hi
      simp [hl] at hi
      subst hi
      exact hx

theorem readList {H : Type} {enc : TypeId × Value → H} {P : Program} {w : World} {base : Nat} {spare : Nat → Bool} {held : Bool} {fuel : Nat} {t e : TypeId} {v : Value} {y : DataW H × List MemPlace} {α : Type} {k : Nat} {E : World → Nat → Nat → α → Prop}
    (ht : P.underlying t = some (.slice e)) (hk : P.cellsOf e = k) (hpos : 0 < k)
    (hE : ∀ n cs y b o, DataW.trod enc P w base spare held n e cs = some y → (∀ i, i < k → w.cell? ⟨b, o + i, none⟩ = cs[i]?) → ∃ x, E w b o x)
    (h : DataW.trod enc P w base spare held fuel t [v] = some y) : ∃ l, ListAt 0 k E w v l := by
  rcases Go.Deep.open_slice ht h with ⟨hcs, _⟩ | ⟨a, len, cap, m, n, D, Pl, hcs, _, hl, hm, hmm, _, hel⟩
  · have hv : v = .slice none 0 0 := by simpa using hcs
    exact ⟨[], none, 0, hv, by simp, fun hp => absurd hp (by simp)⟩
  · have hv : v = .slice (some a) len cap := by simpa using hcs
    have hlm : len ≤ m := by rw [hmm]; split <;> omega
    rw [hk] at hel
    obtain ⟨b, off, spot⟩ := a
    have hcell : ∀ i, i < len → ∃ cs' : List Value, (∀ j, j < k → w.cell? ((Addr.mk b off spot).add (i * k + j)) = cs'[j]?) ∧ cs'.length = k ∧ DataW.trod enc P w base spare held n e cs' = some (D i, Pl i) := by
      intro i hi
      obtain ⟨cs', h1, h2⟩ := hel i (by omega)
      obtain ⟨_, h3, h4⟩ := World.cells?_some h1
      refine ⟨cs', fun j hj => ?_, h3, h2⟩
      rw [← Go.Deep.add_add]
      exact h4 j hj
    by_cases hl0 : len = 0
    · subst hl0
      exact ⟨[], some ⟨b, off, spot⟩, cap, hv, by simp, fun hp => absurd hp (by simp)⟩
    · have hspot : spot = none := by
        obtain ⟨cs', h1, h2, _⟩ := hcell 0 (by omega)
        have h3 := h1 0 (by omega)
        rw [List.getElem?_eq_getElem (by omega)] at h3
        simpa [Addr.add] using World.cell?_spot h3
      subst hspot
      have hall : ∀ i, i < len → ∃ x, E w b (off + i * k) x := by
        intro i hi
        obtain ⟨cs', h1, h2, h3⟩ := hcell i hi
        refine hE n cs' _ b (off + i * k) h3 (fun j hj => ?_)
        rw [← h1 j hj]
        congr 1
        unfold Addr.add
        split <;> simp_all [Nat.add_assoc]
      obtain ⟨l, hll, hlq⟩ := list_of hall
      refine ⟨l, some ⟨b, off, none⟩, cap, by rw [hll]; exact hv, by rw [hll]; unfold maxLen at hm; omega, fun _ => ⟨b, off, rfl, Nat.zero_le _, hlq⟩⟩

theorem cells_lArm : Try.prog.cellsOf 148 = 2 := by kernel_rfl
theorem cells_lPhi : Try.prog.cellsOf 114 = 2 := by kernel_rfl
theorem cells_lBlock : Try.prog.cellsOf 89 = 6 := by kernel_rfl
theorem cells_lFn : Try.prog.cellsOf 37 = 2 := by kernel_rfl
theorem cells_lArms : Try.prog.cellsOf 112 = 1 := by kernel_rfl
theorem cells_lPhis : Try.prog.cellsOf 85 = 1 := by kernel_rfl
theorem cells_lPlaces : Try.prog.cellsOf 86 = 1 := by kernel_rfl
theorem cells_lBlocks : Try.prog.cellsOf 35 = 1 := by kernel_rfl

section
variable {H : Type} {enc : TypeId × Value → H} {w : World} {base : Nat} {spare : Nat → Bool} {held : Bool}

theorem read_arm (n : Nat) (cs : List Value) (y : DataW H × List MemPlace) (b o : Nat) (h : DataW.trod enc Try.prog w base spare held n 148 cs = some y) (hc : ∀ i, i < 2 → w.cell? ⟨b, o + i, none⟩ = cs[i]?) : ∃ x, ArmAt w b o x := by
  obtain ⟨x0, e0, _⟩ := trod_field_int Try.underlying148 Try.underlying3 cells_int h 0 0 rfl
  obtain ⟨x1, e1, _⟩ := trod_field_int Try.underlying148 Try.underlying3 cells_int h 1 1 rfl
  exact ⟨⟨x0, x1⟩, (hc 0 (by omega)).trans e0, (hc 1 (by omega)).trans e1⟩

theorem read_ins (n : Nat) (cs : List Value) (y : DataW H × List MemPlace) (b o : Nat) (h : DataW.trod enc Try.prog w base spare held n 117 cs = some y) (hc : ∀ i, i < 5 → w.cell? ⟨b, o + i, none⟩ = cs[i]?) : ∃ x, InsAt w b o x := by
  obtain ⟨x0, e0, _⟩ := trod_field_int Try.underlying117 Try.underlying3 cells_int h 0 0 rfl
  obtain ⟨x1, e1, _⟩ := trod_field_int Try.underlying117 Try.underlying3 cells_int h 1 1 rfl
  obtain ⟨x2, e2, _⟩ := trod_field_int Try.underlying117 Try.underlying3 cells_int h 2 2 rfl
  obtain ⟨x3, e3, _⟩ := trod_field_int Try.underlying117 Try.underlying3 cells_int h 3 3 rfl
  obtain ⟨x4, e4, _⟩ := trod_field_int Try.underlying117 Try.underlying3 cells_int h 4 4 rfl
  exact ⟨⟨x0, x1, x2, x3, x4⟩, (hc 0 (by omega)).trans e0, (hc 1 (by omega)).trans e1, (hc 2 (by omega)).trans e2, (hc 3 (by omega)).trans e3, (hc 4 (by omega)).trans e4⟩

theorem read_phi (n : Nat) (cs : List Value) (y : DataW H × List MemPlace) (b o : Nat) (h : DataW.trod enc Try.prog w base spare held n 114 cs = some y) (hc : ∀ i, i < 2 → w.cell? ⟨b, o + i, none⟩ = cs[i]?) : ∃ x, PhiAt 0 w b o x := by
  have hl := trod_len Try.underlying114 h
  rw [cells_lPhi] at hl
  obtain ⟨x0, e0, _⟩ := trod_field_int Try.underlying114 Try.underlying3 cells_int h 0 0 rfl
  obtain ⟨c, m, y1, e1, hy⟩ := trod_field_slice Try.underlying114 cells_lArms h 1 1 rfl (by omega)
  obtain ⟨l, hl⟩ := readList Try.underlying112 cells_lArm (by omega) read_arm hy
  exact ⟨⟨x0, l⟩, (hc 0 (by omega)).trans e0, c, (hc 1 (by omega)).trans e1, hl⟩

theorem read_block (n : Nat) (cs : List Value) (y : DataW H × List MemPlace) (b o : Nat) (h : DataW.trod enc Try.prog w base spare held n 89 cs = some y) (hc : ∀ i, i < 6 → w.cell? ⟨b, o + i, none⟩ = cs[i]?) : ∃ x, BlockAt 0 w b o x := by
  have hl := trod_len Try.underlying89 h
  rw [cells_lBlock] at hl
  obtain ⟨c0, m0, y0, e0, hy0⟩ := trod_field_slice Try.underlying89 cells_lPhis h 0 0 rfl (by omega)
  obtain ⟨c1, m1, y1, e1, hy1⟩ := trod_field_slice Try.underlying89 cells_lPlaces h 1 1 rfl (by omega)
  obtain ⟨ps, hps⟩ := readList Try.underlying85 cells_lPhi (by omega) read_phi hy0
  obtain ⟨is, his⟩ := readList Try.underlying86 cells_lIns (by omega) read_ins hy1
  have hterm : ∃ f n y, (DataW.trod enc Try.prog w base spare held n 87 ((cs.drop 2).take 4) = some y) ∧ f = true := by
    obtain ⟨n, y, hy⟩ := trod_field Try.underlying89 h 2 rfl
    exact ⟨true, n, y, by rw [← cells_lTerm]; exact hy, rfl⟩
  obtain ⟨_, m2, y2, hy2, _⟩ := hterm
  obtain ⟨k, a, t, e, hcs⟩ := readTerm hy2
  have hd : ∀ j, j < 4 → ((cs.drop 2).take 4)[j]? = cs[2 + j]? := by
    intro j hj
    rw [List.getElem?_take_of_lt hj, List.getElem?_drop]
  refine ⟨⟨ps, is, ⟨k, a, t, e⟩⟩, c0, c1, (hc 0 (by omega)).trans e0, (hc 1 (by omega)).trans e1, (hc 2 (by omega)).trans ?_, (hc 3 (by omega)).trans ?_, (hc 4 (by omega)).trans ?_, (hc 5 (by omega)).trans ?_, hps, his⟩
  · have := hd 0 (by omega); rw [hcs] at this; exact this.symm
  · have := hd 1 (by omega); rw [hcs] at this; exact this.symm
  · have := hd 2 (by omega); rw [hcs] at this; exact this.symm
  · have := hd 3 (by omega); rw [hcs] at this; exact this.symm

end


set_option maxRecDepth 100000 in
theorem openFn {H : Type} {enc : TypeId × Value → H} {w : World} {base : Nat} {spare : Nat → Bool} {held : Bool} {r : Reach} {b0 : Nat} {v : Value} {d : DataW H} {p : List MemPlace}
    (hv : Value.okWide Try.prog w r b0 37 v) (h : DataW.Trod enc Try.prog w base spare held 37 v d p) : ∃ F, FnAt w v F := by
  obtain ⟨cs, hv', hsz⟩ := okWide_struct Try.underlying37 hv
  obtain ⟨fuel, hf⟩ := h
  rw [hv'] at hf
  have hl := trod_len Try.underlying37 hf
  rw [cells_lFn] at hl
  obtain ⟨c0, m0, y0, e0, hy0⟩ := trod_field_slice Try.underlying37 cells_lBlocks hf 0 0 rfl (by omega)
  obtain ⟨x1, e1, _⟩ := trod_field_int Try.underlying37 Try.underlying3 cells_int hf 1 1 rfl
  obtain ⟨bs, hbs⟩ := readList Try.underlying35 cells_lBlock (by omega) read_block hy0
  refine ⟨⟨bs, x1⟩, c0, ?_, hbs⟩
  rw [hv']
  have hcs : (Value.agg cs).cells.toList = [c0, .int .i64 x1] := by
    match hq : (Value.agg cs).cells.toList, hl with
    | [u0, u1], _ =>
      rw [hq] at e0 e1
      simp at e0 e1
      rw [e0, e1]
  exact agg_of_cells hcs
end Go.Proofs.Ytgjojajodkagbaa
