/- What is needed at the beginning of each block: the model's rounds (l11In). -/
import Derived.Test.YtjfogpbhacadbaaLSpDK
import Derived.Maps.AppendAt
import Derived.RangeFuncBox
import Derived.Deep.LoopGhost
namespace Go.Proofs.Ytjfogpbhacadbaa
open Go.ChangeShapes Go.WideShapes Go.ChangeAt Go.RowKit
set_option linter.unusedVariables false

/-- A plain program, by its numbers. -/
structure PlainV (F : FnD) (n V : Nat) : Prop where
  len : F.blocks.length = n
  n1 : 1 ≤ n
  n16 : n ≤ 16
  vals : F.values = (V : Int)
  v80 : V ≤ 80
  su : ∀ (j : Nat), ∀ s ∈ succsN F j, 0 ≤ s ∧ s < n
  ends : ∀ (j : Nat) x, F.blocks[j]? = some x → ∀ z ∈ endsV x.term.k x.term.a, 0 ≤ z ∧ z < V
  uses : ∀ (j : Nat) x, F.blocks[j]? = some x → ∀ y ∈ x.list, (∀ z ∈ usesV y.op y.a y.b, 0 ≤ z ∧ z < V) ∧ (insDefV y.op y.d = -1 ∨ (0 ≤ insDefV y.op y.d ∧ insDefV y.op y.d < V))
theorem PlainV.atV {F : FnD} {n V : Nat} (h : PlainV F n V) {b : Nat} {x : BlockD} (hx : F.blocks[b]? = some x) {o : List Int} (ho : ∀ z ∈ o, z < (V : Int)) (j : Nat) : ∀ z ∈ atS x o j, z < (V : Int) := by
  have key : ∀ l : List InsD, (∀ y ∈ l, y ∈ x.list) → ∀ z ∈ l.foldr backS (endS x.term o), z < (V : Int) := by
    intro l
    induction l with
    | nil =>
      intro _ z hz
      obtain ⟨h1, _⟩ := (norm_mem _ z).1 hz
      rcases List.mem_append.1 h1 with h1 | h1
      · exact ho z h1
      · exact (h.ends b x hx z h1).2
    | cons y l ih =>
      intro hl z hz
      obtain ⟨h1, _⟩ := (norm_mem _ z).1 hz
      rcases List.mem_append.1 h1 with h1 | h1
      · exact ih (fun q hq => hl q (by simp [hq])) z (List.mem_filter.1 h1).1
      · exact ((h.uses b x hx y (hl y (by simp))).1 z h1).2
  exact key _ (fun y hy => List.mem_of_mem_drop hy)
theorem outV {F : FnD} {V : Nat} {ins : Nat → List Int} (hi : ∀ b, ∀ z ∈ ins b, z < (V : Int)) (b : Nat) : ∀ z ∈ outF F ins b, z < (V : Int) := fun z hz => by
  obtain ⟨h1, _⟩ := (norm_mem _ z).1 hz
  obtain ⟨s, _, h2⟩ := List.mem_flatMap.1 h1
  exact hi _ z h2
theorem PlainV.inV {F : FnD} {n V : Nat} (h : PlainV F n V) {ins : Nat → List Int} (hi : ∀ b, ∀ z ∈ ins b, z < (V : Int)) (b : Nat) : ∀ z ∈ inF F ins b, z < (V : Int) := by
  unfold inF
  split
  · rename_i x hx; exact h.atV hx (outV hi b) 0
  · intro z hz; cases hz
theorem bits_inj {V : Nat} {l m : List Int} (hl : Asc l) (hm : Asc m) (l8 : In80 l) (m8 : In80 m) (lV : ∀ z ∈ l, z < (V : Int)) (mV : ∀ z ∈ m, z < (V : Int)) (h : ∀ j : Nat, j < V → ((j : Int) ∈ l ↔ (j : Int) ∈ m)) : l = m := by
  refine asc_ext hl hm (fun x => ⟨fun hx => ?_, fun hx => ?_⟩)
  · have := l8 x hx; have h1 := lV x hx
    obtain ⟨j, rfl⟩ : ∃ j : Nat, x = (j : Int) := ⟨x.toNat, by omega⟩
    exact (h j (by omega)).1 hx
  · have := m8 x hx; have h1 := mV x hx
    obtain ⟨j, rfl⟩ : ∃ j : Nat, x = (j : Int) := ⟨x.toNat, by omega⟩
    exact (h j (by omega)).2 hx

theorem OwnBools.block {V : World} {lo : Nat} {sv : Value} {l : List Bool} (h : OwnBools V lo sv l) {k : Nat} (hk : sv.ownBlock = some k) : lo ≤ k ∧ ∃ c, V.heap[k]? = some (.cells c 4 (0, 0)) := by
  rcases h with ⟨h0, ⟨rfl, _⟩ | ⟨g', cap, cur, rfl, h2, h3, h4⟩⟩
  · simp [Value.ownBlock] at hk
  · simp [Value.ownBlock] at hk
    subst hk
    exact ⟨h2, _, h3⟩
theorem OwnBools.sameB {w w' : World} {lo : Nat} {v : Value} {l : List Bool} (h : OwnBools w lo v l) (hs : ∀ b, v.ownBlock = some b → w'.heap[b]? = w.heap[b]?) : OwnBools w' lo v l := by
  rcases h with ⟨h0, h1 | ⟨g', cap, cur, rfl, h2, h3, h4⟩⟩
  · exact ⟨h0, .inl h1⟩
  · exact ⟨h0, .inr ⟨g', cap, cur, rfl, h2, (hs g' rfl).trans h3, h4⟩⟩
/-- The matrix of a call's own. -/
structure MatO (w : World) (lo g n V : Nat) (ls : Nat → List Int) : Prop where
  low : lo ≤ g
  box : ∃ cur, w.heap[g]? = some (.cells cur 35 (0, 0)) ∧ n ≤ cur.size ∧ ∀ i, i < n → ∃ g' cap', cur[i]? = some (.slice (some ⟨g', 0, none⟩) V cap') ∧ OwnBools w lo (.slice (some ⟨g', 0, none⟩) V cap') (bitsOf V (ls i))
theorem MatO.at {w : World} {lo g n V : Nat} {ls : Nat → List Int} (h : MatO w lo g n V ls) : MatAt w g n V ls := fun i hi => by
  obtain ⟨cur, hc, _, hr⟩ := h.box
  obtain ⟨g', cap', h1, h2⟩ := hr i hi
  exact ⟨_, _, by simp [World.cell?, hc, h1], h2.at⟩
theorem MatO.lt {w : World} {lo g n V : Nat} {ls : Nat → List Int} (h : MatO w lo g n V ls) : g < w.heap.size := by
  obtain ⟨cur, hc, _⟩ := h.box
  exact (Array.getElem?_eq_some_iff.1 hc).1
theorem MatO.keep {w w' : World} {lo g n V : Nat} {ls : Nat → List Int} (h : MatO w lo g n V ls) (hb : Below w.heap.size w w') : MatO w' lo g n V ls := by
  obtain ⟨cur, hc, hs, hr⟩ := h.box
  refine ⟨h.low, cur, (hb.block g h.lt).trans hc, hs, fun i hi => ?_⟩
  obtain ⟨g', cap', h1, h2⟩ := hr i hi
  exact ⟨g', cap', h1, h2.keep hb⟩
theorem MatO.put {w : World} {lo g n V : Nat} {ls : Nat → List Int} (h : MatO w lo g n V ls) {b : Nat} (hb : b < n) {g2 cap2 : Nat} {l : List Int} (ho : OwnBools w lo (.slice (some ⟨g2, 0, none⟩) V cap2) (bitsOf V l)) : (∃ u, w.cell? ⟨g, b, none⟩ = some u) ∧ w.frozen? ⟨g, b, none⟩ = false ∧ MatO (w.setCell ⟨g, b, none⟩ (.slice (some ⟨g2, 0, none⟩) V cap2)) lo g n V (updL ls b l) := by
  obtain ⟨cur, hc, hs, hr⟩ := h.box
  have hbs : b < cur.size := by omega
  have key : ∀ {sv : Value} {m : List Bool}, OwnBools w lo sv m → OwnBools (w.setCell ⟨g, b, none⟩ (.slice (some ⟨g2, 0, none⟩) V cap2)) lo sv m := fun hm => hm.sameB (fun k hk => Below.heap_setCell _ _ _ k (by
    intro e
    obtain ⟨_, c, h9⟩ := hm.block hk
    dsimp only at e
    rw [e, hc] at h9
    simp at h9))
  obtain ⟨hl, hk⟩ := Array.getElem?_eq_some_iff.1 hc
  refine ⟨⟨cur[b], by simp [World.cell?, hc, hbs]⟩, by simp [World.frozen?, hc], h.low, cur.setIfInBounds b (.slice (some ⟨g2, 0, none⟩) V cap2), ?_, by simpa using hs, fun i hi => ?_⟩
  · show (w.heap.modify g _)[g]? = _
    rw [Array.getElem?_eq_getElem (by rw [Array.size_modify]; exact hl), Array.getElem_modify_self, hk]
    rfl
  · unfold updL
    by_cases e : i = b
    · subst e
      rw [if_pos rfl]
      exact ⟨g2, cap2, by simp [hbs], key ho⟩
    · rw [if_neg e]
      obtain ⟨g', cap', h1, h2⟩ := hr i hi
      exact ⟨g', cap', by rw [Array.getElem?_setIfInBounds, if_neg (fun h => e h.symm)]; exact h1, key h2⟩
theorem OwnBools.grownRow {W W' : World} {lo g : Nat} {sv : Value} {l : List Bool} (h : OwnBools W lo sv l) (hg : W.grownBy W' (some g)) {cur : Array Value} {z : Nat × Nat} (hb : W.heap[g]? = some (.cells cur 35 z)) : OwnBools W' lo sv l := h.sameB (fun k hk => hg.block k (by obtain ⟨_, c, h9⟩ := h.block hk; exact (Array.getElem?_eq_some_iff.1 h9).1) (fun e => by
  cases e
  obtain ⟨_, c, h9⟩ := h.block hk
  rw [hb] at h9
  simp at h9))
/-- The matrix while it is built. -/
def HdUp (w : World) (lo V : Nat) (mv : Value) (k : Nat) : Prop := ∃ hs : List Value, w.ownsRow lo 35 1 mv k hs ∧ ∀ h ∈ hs, (∃ g' cap', h = .slice (some ⟨g', 0, none⟩) V cap') ∧ OwnBools w lo h (bitsOf V [])
theorem hdUp_next {wM wa : World} {lo V g g' k cap cap' : Nat} {hs : List Value} {o : Obj} (hrow : wM.ownsRow lo 35 1 (.slice (some ⟨g, 0, none⟩) k cap) k hs) (hall : ∀ h ∈ hs, (∃ g' cap', h = .slice (some ⟨g', 0, none⟩) V cap') ∧ OwnBools wM lo h (bitsOf V [])) {gr cr : Nat} (hnew : OwnBools wM lo (.slice (some ⟨gr, 0, none⟩) V cr) (bitsOf V []))
    (hown : wa.ownsRow lo 35 1 (.slice (some ⟨g', 0, none⟩) (k + 1) cap') (k + 1) (hs ++ [.slice (some ⟨gr, 0, none⟩) V cr])) (hg : (wM.alloc o).grownBy wa (Value.slice (some ⟨g, 0, none⟩) k cap).ownBlock) : HdUp wa lo V (.slice (some ⟨g', 0, none⟩) (k + 1) cap') (k + 1) := by
  obtain ⟨cur, hcur⟩ : ∃ cur, wM.heap[g]? = some (.cells cur 35 (0, 0)) := by
    rcases hrow.2 with ⟨h0, _⟩ | ⟨g9, c9, cur, hv, _, h9, _⟩
    · cases h0
    · cases hv; exact ⟨cur, h9⟩
  have hcur2 : (wM.alloc o).heap[g]? = some (.cells cur 35 (0, 0)) := (Below.heap_alloc wM o g (Array.getElem?_eq_some_iff.1 hcur).1).trans hcur
  refine ⟨_, hown, fun h hh => ?_⟩
  rcases List.mem_append.1 hh with hh | hh
  · exact ⟨(hall h hh).1, ((hall h hh).2.keep (Bel.alloc wM o)).grownRow hg hcur2⟩
  · simp at hh
    subst hh
    exact ⟨⟨_, _, rfl⟩, (hnew.keep (Bel.alloc wM o)).grownRow hg hcur2⟩
theorem HdUp.mat {w : World} {lo V g n cap : Nat} (h : HdUp w lo V (.slice (some ⟨g, 0, none⟩) n cap) n) : MatO w lo g n V (fun _ => []) := by
  obtain ⟨hs, ⟨hl, ⟨h0, _⟩ | ⟨g', cap', cur, hv, hlo, hg, h1, h2, h3, h4⟩⟩, hr⟩ := h
  · cases h0
  · cases hv
    refine ⟨hlo, cur, hg, by omega, fun i hi => ?_⟩
    have hil : i < hs.length := by omega
    obtain ⟨⟨g', cap', e⟩, ho⟩ := hr hs[i] (List.getElem_mem hil)
    have e2 := congrArg (fun m => m[i]?) h4
    rw [List.getElem?_take, if_pos (by omega), List.getElem?_eq_getElem hil] at e2
    rw [e] at e2 ho
    exact ⟨g', cap', by simpa using e2, ho⟩
/-- Whether something has turned so far. -/
def Diff (m : Bool) (l k : List Int) (z : Nat) (r : Bool) : Prop := r = true ↔ (m = true ∨ ∃ q : Nat, q < z ∧ ¬ ((q : Int) ∈ l ↔ (q : Int) ∈ k))
theorem diff_next {m : Bool} {l k : List Int} {z : Nat} {r t1 t2 : Bool} (h : Diff m l k z r) (h1 : decide ((z : Int) ∈ l) = t1) (h2 : decide ((z : Int) ∈ k) = t2) : Diff m l k (z + 1) (r || (t1 != t2)) := by
  subst h1
  subst h2
  unfold Diff at h ⊢
  rw [Bool.or_eq_true, h]
  have e : (decide ((z : Int) ∈ l) != decide ((z : Int) ∈ k)) = true ↔ ¬ ((z : Int) ∈ l ↔ (z : Int) ∈ k) := by
    by_cases a : (z : Int) ∈ l <;> by_cases b : (z : Int) ∈ k <;> simp [a, b]
  rw [e]
  constructor
  · rintro ((h | ⟨q, h1, h2⟩) | h)
    · exact .inl h
    · exact .inr ⟨q, by omega, h2⟩
    · exact .inr ⟨z, by omega, h⟩
  · rintro (h | ⟨q, h1, h2⟩)
    · exact .inl (.inl h)
    · by_cases e : q = z
      · subst e; exact .inr h2
      · exact .inl (.inr ⟨q, by omega, h2⟩)
def GivesMat (w : World) (n V : Nat) (ls : Nat → List Int) (e : Ending) (w' : World) : Prop := ∃ g cap, e = .returned (.slice (some ⟨g, 0, none⟩) n cap) ∧ MatO w' w.heap.size g n V ls ∧ Below w.heap.size w w'
theorem cinfo_row : (Try.prog.info? 35).map (fun i => (i.zero, i.size, i.bytes)) = some (some (.slice none 0 0), 1, 24) := by kernel_rfl

set_option maxRecDepth 100000 in
set_option maxHeartbeats 8000000 in
theorem l11In_any (v : Value) (F : FnD) (n V : Nat) (w : World) (hF : FnAt w v F) (hP : PlainV F n V) :
    Calls Try.prog 22 #[v] w fun e w' => GivesMat w n V (liveL F) e w' := by
  have HF : Hid (FnAt w v F) := hF
  have HP : Hid (PlainV F n V) := hP
  obtain ⟨ba, bcap, rfl⟩ := hF.out hP.len hP.vals
  have hn1 := hP.n1
  have hn16 := hP.n16
  have hV8 := hP.v80
  obtain ⟨i0, hi, hz0, hz1, hz2⟩ := info_parts cinfo_row
  have hmx : 2000000 ≤ maxLen := by decide
  clear hF hP
  obtain ⟨wA, hwA⟩ : ∃ wA, w.alloc (.cells #[.slice ba n bcap, .int .i64 V] 29) = wA := ⟨_, rfl⟩
  have BA : Hid (Below w.heap.size w wA) := by rw [← hwA]; exact Bel.alloc _ _
  have hsA : wA.heap.size = w.heap.size + 1 := by rw [← hwA]; simp
  have a0 : wA.cell? ⟨w.heap.size, 0, none⟩ = some (.slice ba n bcap) := by rw [← hwA]; simp [go_sem]
  have a1 : wA.cell? ⟨w.heap.size, 1, none⟩ = some (.int .i64 V) := by rw [← hwA]; simp [go_sem]
  obtain ⟨wB, hwB⟩ : ∃ wB, wA.alloc (.cells #[] 35) = wB := ⟨_, rfl⟩
  have BB : Hid (Below wA.heap.size wA wB) := by rw [← hwB]; exact Bel.alloc _ _
  have hsB : wB.heap.size = w.heap.size + 2 := by rw [← hwB]; simp; omega
  have UB : Hid (HdUp wB (w.heap.size + 1) V (.slice (some ⟨w.heap.size + 1, 0, none⟩) 0 0) 0) := by
    have h9 : HdUp wB (w.heap.size + 1) V (.slice (some ⟨w.heap.size + 1, 0, none⟩) 0 0) 0 := by
      rw [← hwB, ← hsA]
      exact ⟨[], World.ownsRow_made wA #[] 0 (by omega) (by omega) rfl, fun h hh => by cases hh⟩
    exact h9
  have b0 := Bel.keeps BB.out a0
  have b1 := Bel.keeps BB.out a1
  go_enter Try.func22, Try.ntmps22
  go_wp2_with fail
  go_loopw [3, 4] (fun mv i wr => ∃ (k g cap : Nat), k ≤ n ∧ i = .int .i64 k ∧ mv = .slice (some ⟨g, 0, none⟩) k cap ∧ HdUp wr (w.heap.size + 1) V (.slice (some ⟨g, 0, none⟩) k cap) k ∧ Below (w.heap.size + 1) wB wr) (fun _ i _ => n - (intOf i).toNat)
  case atStart => exact ⟨0, w.heap.size + 1, 0, Nat.zero_le _, rfl, rfl, UB.out, Below.refl _ _⟩
  case round =>
    obtain ⟨wq, hwq⟩ : ∃ x, x = wr := ⟨_, rfl⟩
    subst hwq
    obtain ⟨k, g, cap, hk, rfl, rfl, hup, hbq⟩ := hrel
    have UP : Hid (HdUp wq (w.heap.size + 1) V (.slice (some ⟨g, 0, none⟩) k cap) k) := hup
    have BQ : Hid (Below (w.heap.size + 1) wB wq) := hbq
    have f0 : wq.cell? ⟨w.heap.size, 0, none⟩ = some (.slice ba n bcap) := (hbq.cell (p := ⟨w.heap.size, 0, none⟩) (by simp)).trans b0
    have f1 : wq.cell? ⟨w.heap.size, 1, none⟩ = some (.int .i64 V) := (hbq.cell (p := ⟨w.heap.size, 1, none⟩) (by simp)).trans b1
    have hsq := hbq.size
    clear hup hbq
    by_cases hlt : (k : Int) < (n : Int)
    · have hmk := make_bools V (by omega) wq
      obtain ⟨wM, hwM⟩ : ∃ wM, wq.alloc (.cells (madeCells #[.bool false] V) 4) = wM := ⟨_, rfl⟩
      rw [hwM] at hmk
      have BM : Hid (Below wq.heap.size wq wM) := by rw [← hwM]; exact Bel.alloc _ _
      have OM : Hid (OwnBools wM (w.heap.size + 1) (.slice (some ⟨wq.heap.size, 0, none⟩) V V) (bitsOf V [])) := by rw [← hwM]; exact ownBools_made V _ (by omega) wq (by omega)
      have hsM : wM.heap.size = wq.heap.size + 1 := by rw [← hwM]; simp
      clear hwM
      obtain ⟨hs, hrow, hall⟩ := UP.out
      have HROW : Hid (wM.ownsRow (w.heap.size + 1) 35 1 (.slice (some ⟨g, 0, none⟩) k cap) k hs) := ownsRow_laterB hrow BM.out
      have HALL : Hid (∀ h ∈ hs, (∃ g' cap', h = .slice (some ⟨g', 0, none⟩) V cap') ∧ OwnBools wM (w.heap.size + 1) h (bitsOf V [])) := fun h hh => ⟨(hall h hh).1, (hall h hh).2.keep BM.out⟩
      clear hrow hall
      go_wp2_with (at_builtin; refine wpList_append_own _ rfl _ _ 36 rfl (w.heap.size + 1) 35 i0 (.slice none 0 0) 1 24 Try.underlying36 hi hz0 hz1 hz2 rfl (by decide) (.slice (some ⟨g, 0, none⟩) k cap) k hs rfl (World.ownsRow.alloc HROW.out _) ⟨wM.heap.size, 0, none⟩ 1 1 [.slice (some ⟨wq.heap.size, 0, none⟩) V V] (by simp [Act.eval]) rfl (by have := cell_one_new wM (.slice (some ⟨wq.heap.size, 0, none⟩) V V) 35; simpa using this) (by simp [Value.oneCell']) (by omega) (by omega) (by simp; omega) ?_; intro v' wa hown' hgrow _; obtain ⟨g', cap', rfl⟩ := ownsRow_succ hown')
      have UA : Hid (HdUp wa (w.heap.size + 1) V (.slice (some ⟨g', 0, none⟩) (k + 1) cap') (k + 1)) := (hdUp_next HROW.out HALL.out OM.out hown' hgrow)
      have BQA : Hid (Below (w.heap.size + 1) wB wa) := BQ.out.trans ((BM.out.mono (by omega)).trans ((((Below.refl (w.heap.size + 1) wM).alloc (by omega) _).grown hgrow (by simp; omega) (fun j ej => by have := (World.ownsRow.lt HROW.out j ej).1; omega))))
      go_roundw
      case rel => exact ⟨k + 1, g', cap', by omega, by simp, rfl, UA.out, BQA.out⟩
      case measure => simp [intOf]; omega
    · have ekn : n = k := by omega
      subst ekn
      have M0 := UP.out.mat
      have HM0 : Hid (MatO wq (w.heap.size + 1) g n V (fun _ => [])) := M0
      clear M0
      go_wp2_with fail
      go_loopg [5] (roomL n (fun _ => []) + 1) (fun G mr wr => ∃ (m : Bool) (ins : Nat → List Int), mr = .bool m ∧ LvOk F ins ∧ (∀ b, ∀ z ∈ ins b, z < (V : Int)) ∧ MatO wr (w.heap.size + 1) g n V ins ∧ Below (w.heap.size + 1) wB wr ∧ (m = false → ∀ i, i < n → inF F ins i = ins i) ∧ roomL n ins + (if m then 1 else 0) ≤ G)
      case atStart => exact ⟨true, fun _ => [], rfl, lvOk_start F, fun _ z hz => (by cases hz), HM0.out, BQ.out, fun h => (by cases h), by simp⟩
      case round =>
        obtain ⟨wp, hwp⟩ : ∃ x, x = wr := ⟨_, rfl⟩
        subst hwp
        obtain ⟨m, ins, rfl, hok, hvs, hmat, hbp, hend, hG⟩ := hrel
        have OK : Hid (LvOk F ins) := hok
        have VS : Hid (∀ b, ∀ z ∈ ins b, z < (V : Int)) := hvs
        have MP : Hid (MatO wp (w.heap.size + 1) g n V ins) := hmat
        have BP : Hid (Below (w.heap.size + 1) wB wp) := hbp
        have HEND : Hid (m = false → ∀ i, i < n → inF F ins i = ins i) := hend
        have HGG : Hid (roomL n ins + (if m then 1 else 0) ≤ _) := hG
        have g0 : wp.cell? ⟨w.heap.size, 0, none⟩ = some (.slice ba n bcap) := (hbp.cell (p := ⟨w.heap.size, 0, none⟩) (by simp)).trans b0
        clear hok hvs hmat hbp hend hG
        cases m
        · go_wp2_with fail
          go_ret
          have e := OK.out.eq (fun b hb => HEND.out (by simp) b (by rw [← HP.out.len]; exact hb))
          have h9 := MP.out
          rw [e] at h9
          exact ⟨g, cap, rfl, ⟨by have := h9.low; omega, by obtain ⟨cur, q1, q2, q3⟩ := h9.box; exact ⟨cur, q1, q2, fun i hi => by obtain ⟨g', cap', r1, r2⟩ := q3 i hi; exact ⟨g', cap', r1, r2.low (by omega)⟩⟩⟩, (Bel.after BA.out BB.out).trans (BP.out.mono (by omega))⟩
        · go_wp2_with fail
          go_loopw [5, 6] (fun mr i wr => ∃ (m' : Bool) (j : Nat) (is : Nat → List Int), j ≤ n ∧ i = .int .i64 ((j : Int) - 1) ∧ mr = .bool m' ∧ LvOk F is ∧ (∀ b, ∀ z ∈ is b, z < (V : Int)) ∧ MatO wr (w.heap.size + 1) g n V is ∧ Below (w.heap.size + 1) wB wr ∧ roomL n is + (if m' then 1 else 0) ≤ roomL n ins ∧ (m' = false → ∀ q, j ≤ q → q < n → inF F is q = is q)) (fun _ i _ => (intOf i + 1).toNat)
          case atStart => exact ⟨false, n, ins, Nat.le_refl _, rfl, rfl, OK.out, VS.out, MP.out, BP.out, by simp, fun _ q h1 h2 => absurd h2 (by omega)⟩
          case round =>
            obtain ⟨wx, hwx⟩ : ∃ x, x = wr := ⟨_, rfl⟩
            subst hwx
            obtain ⟨m', j, is, hj, rfl, rfl, hok2, hvs2, hmat2, hbx, hroom, hrd⟩ := hrel
            have OK2 : Hid (LvOk F is) := hok2
            have VS2 : Hid (∀ b, ∀ z ∈ is b, z < (V : Int)) := hvs2
            have MX : Hid (MatO wx (w.heap.size + 1) g n V is) := hmat2
            have BX : Hid (Below (w.heap.size + 1) wB wx) := hbx
            have HROOM : Hid (roomL n is + (if m' then 1 else 0) ≤ roomL n ins) := hroom
            have HRD : Hid (m' = false → ∀ q, j ≤ q → q < n → inF F is q = is q) := hrd
            have x0 : wx.cell? ⟨w.heap.size, 0, none⟩ = some (.slice ba n bcap) := (hbx.cell (p := ⟨w.heap.size, 0, none⟩) (by simp)).trans b0
            have x1 : wx.cell? ⟨w.heap.size, 1, none⟩ = some (.int .i64 V) := (hbx.cell (p := ⟨w.heap.size, 1, none⟩) (by simp)).trans b1
            clear hok2 hvs2 hmat2 hbx hroom hrd
            cases j with
            | zero =>
              obtain ⟨z, hz⟩ : ∃ z : Int, ((0 : Nat) : Int) - 1 = z := ⟨_, rfl⟩
              rw [hz]
              have hz1 : z < 0 := by omega
              clear hz
              go_wp2_with fail
              go_roundg (roomL n is + (if m' then 1 else 0))
              case measure =>
                have h1 := HROOM.out
                have h2 := HGG.out
                simp at h2
                omega
              case rel => exact ⟨m', is, rfl, OK2.out, VS2.out, MX.out, BX.out, fun h q hq => HRD.out h q (Nat.zero_le _) hq, Nat.le_refl _⟩
            | succ c =>
              rw [show ((c + 1 : Nat) : Int) - 1 = (c : Int) by omega]
              have hcn : c < n := by omega
              have hcl : c < F.blocks.length := by rw [HP.out.len]; exact hcn
              obtain ⟨x, HX⟩ : ∃ x, Hid (F.blocks[c]? = some x) := ⟨F.blocks[c], List.getElem?_eq_getElem hcl⟩
              have hFx : FnAt wx (.agg #[.slice ba n bcap, .int .i64 V]) F := HF.out.later ((Bel.after BA.out BB.out).trans (BX.out.mono (by omega)))
              have HBF : Hid (Calls Try.prog 24 #[.agg #[.slice ba n bcap, .int .i64 V], .int .i64 c, .int .i64 0, .slice (some ⟨g, 0, none⟩) n cap] wx fun e w' => GivesBits wx V (inF F is c) e w') := by
                have h9 := l11Before_any _ F c n V g cap 0 is wx hFx HP.out.len HP.out.vals hV8 hcn (HP.out.su c) MX.out.at x HX.out (HP.out.ends c x HX.out) (HP.out.uses c x HX.out) (Nat.zero_le _)
                rw [← inF_at HX.out] at h9
                exact h9
              have hcI : (c : Int) < (n : Int) := by omega
              clear hcl hFx
              go_wp2_with (go_at_call 24; refine HBF.out.mono ?_; rintro e w2 ⟨g2, cap2, rfl, hO2, hb2⟩; have O2 : Hid (OwnBools w2 (w.heap.size + 1) (.slice (some ⟨g2, 0, none⟩) V cap2) (bitsOf V (inF F is c))) := hO2.low (by have := MX.out.lt; have := MX.out.low; omega); have B2 : Hid (Below wx.heap.size wx w2) := hb2; have M2 : Hid (MatO w2 (w.heap.size + 1) g n V is) := MX.out.keep hb2; have z1 := Bel.keeps hb2 x1; clear hO2 hb2)
              obtain ⟨go, capo, hgo, hold⟩ : ∃ go capo, w2.cell? ⟨g, c, none⟩ = some (.slice (some ⟨go, 0, none⟩) V capo) ∧ OwnBools w2 (w.heap.size + 1) (.slice (some ⟨go, 0, none⟩) V capo) (bitsOf V (is c)) := by
                obtain ⟨cur, q1, q2, q3⟩ := M2.out.box
                obtain ⟨g', cap', r1, r2⟩ := q3 c hcn
                exact ⟨g', cap', by simp [World.cell?, q1, r1], r2⟩
              have HOLD : Hid (OwnBools w2 (w.heap.size + 1) (.slice (some ⟨go, 0, none⟩) V capo) (bitsOf V (is c))) := hold
              clear hold
              go_loopw [5, 8] (fun mr i wr => ∃ (z : Nat) (mv : Bool), z ≤ V ∧ i = .int .i64 z ∧ mr = .bool mv ∧ Diff m' (inF F is c) (is c) z mv ∧ Below w2.heap.size w2 wr) (fun _ i _ => V - (intOf i).toNat)
              case atStart => exact ⟨0, m', Nat.zero_le _, rfl, rfl, ⟨fun h => .inl h, fun h => h.elim id (fun ⟨q, h1, _⟩ => absurd h1 (by omega))⟩, Below.refl _ _⟩
              case round =>
                obtain ⟨wz, hwz⟩ : ∃ x, x = wr := ⟨_, rfl⟩
                subst hwz
                obtain ⟨z, mv, hz, rfl, rfl, hmv, hbz⟩ := hrel
                have HMV : Hid (Diff m' (inF F is c) (is c) z mv) := hmv
                have BZ : Hid (Below w2.heap.size w2 wz) := hbz
                have z2 := Bel.keeps hbz z1
                have r2 := Bel.keeps hbz hgo
                clear hmv hbz
                by_cases hzl : (z : Int) < (V : Int)
                · have hzV : z < V := by omega
                  obtain ⟨_, _, _, _, hcA, _⟩ := O2.out.cells
                  obtain ⟨_, _, _, _, hcB, _⟩ := HOLD.out.cells
                  have r1 := Bel.keeps BZ.out (hcA z hzV)
                  have r3 := Bel.keeps BZ.out (hcB z hzV)
                  rw [bits_getD _ hzV] at r1 r3
                  obtain ⟨t1, HT1⟩ : ∃ t, Hid (decide ((z : Int) ∈ inF F is c) = t) := ⟨_, rfl⟩
                  obtain ⟨t2, HT2⟩ : ∃ t, Hid (decide ((z : Int) ∈ is c) = t) := ⟨_, rfl⟩
                  rw [HT1.out] at r1
                  rw [HT2.out] at r3
                  clear hcA hcB
                  cases mv
                  · go_wp2_with fail
                    refine wp_region_held_drew (S := (fun w' => w'.cell? ⟨g2, z, none⟩ = some (.bool t1) ∧ w'.cell? ⟨g, c, none⟩ = some (.slice (some ⟨go, 0, none⟩) V capo) ∧ w'.cell? ⟨go, z, none⟩ = some (.bool t2))) (by kernel_rfl) ⟨r1, r2, r3⟩ (fun hHeld => ?_)
                    refine wpAnyH_take (i := 0) (oi := { dst := some 42, op := Go.Op.move (Go.Operand.tmp 5), type := 4, pos := "l11_live.go:62", after := #[], guard := none }) (v := ?_) rfl (by kernel_rfl) (by kernel_rfl) (by kernel_rfl) (fun _ _ _ h => h) (Or.inl ⟨by rfl, ?_⟩) (by assumption) ?_
                    rotate_left
                    · intro w hSw
                      (try dsimp only at hSw)
                      go_simp
                      (try with_reducible rfl)
                    try simp only [Act.put, List.setIfInBounds_toArray, List.set_cons_zero, List.set_cons_succ]
                    refine wpAnyH_take (i := 1) (oi := { dst := some 43, op := Go.Op.move (Go.Operand.tmp 42), type := 4, pos := "l11_live.go:62", after := #[{ on := 0, ground := Go.Ground.data }], guard := none }) (v := ?_) rfl (by kernel_rfl) (by kernel_rfl) (by kernel_rfl) (fun _ _ _ h => h) (Or.inl ⟨by rfl, ?_⟩) (by assumption) ?_
                    rotate_left
                    · intro w hSw
                      (try dsimp only at hSw)
                      go_simp
                      (try with_reducible rfl)
                    try simp only [Act.put, List.setIfInBounds_toArray, List.set_cons_zero, List.set_cons_succ]
                    refine wpAnyH_take (i := 2) (oi := { dst := some 44, op := Go.Op.move (Go.Operand.tmp 7), type := 35, pos := "l11_live.go:62", after := #[{ on := 1, ground := Go.Ground.guard }], guard := some (1, false) }) (v := ?_) rfl (by kernel_rfl) (by kernel_rfl) (by kernel_rfl) (fun _ _ _ h => h) (Or.inl ⟨by rfl, ?_⟩) (by assumption) ?_
                    rotate_left
                    · intro w hSw
                      (try dsimp only at hSw)
                      go_simp
                      (try with_reducible rfl)
                    try simp only [Act.put, List.setIfInBounds_toArray, List.set_cons_zero, List.set_cons_succ]
                    refine wpAnyH_take (i := 3) (oi := { dst := some 45, op := Go.Op.move (Go.Operand.tmp 8), type := 3, pos := "l11_live.go:62", after := #[{ on := 1, ground := Go.Ground.guard }], guard := some (1, false) }) (v := ?_) rfl (by kernel_rfl) (by kernel_rfl) (by kernel_rfl) (fun _ _ _ h => h) (Or.inl ⟨by rfl, ?_⟩) (by assumption) ?_
                    rotate_left
                    · intro w hSw
                      (try dsimp only at hSw)
                      go_simp
                      (try with_reducible rfl)
                    try simp only [Act.put, List.setIfInBounds_toArray, List.set_cons_zero, List.set_cons_succ]
                    refine wpAnyH_take (i := 4) (oi := { dst := some 46, op := Go.Op.indexAddr 35 (Go.Operand.tmp 44) (Go.Operand.tmp 45), type := 0, pos := "l11_live.go:62", after := #[{ on := 2, ground := Go.Ground.data }, { on := 3, ground := Go.Ground.data }, { on := 1, ground := Go.Ground.guard }], guard := some (1, false) }) (v := ?_) rfl (by kernel_rfl) (by kernel_rfl) (by kernel_rfl) (fun _ _ _ h => h) (Or.inl ⟨by rfl, ?_⟩) (by assumption) ?_
                    rotate_left
                    · intro w hSw
                      (try dsimp only at hSw)
                      go_simp
                      (try with_reducible rfl)
                    try simp only [Act.put, List.setIfInBounds_toArray, List.set_cons_zero, List.set_cons_succ]
                    refine wpAnyH_take (i := 5) (oi := { dst := some 47, op := Go.Op.load 4 (Go.Operand.tmp 46), type := 4, pos := "l11_live.go:62", after := #[{ on := 4, ground := Go.Ground.data }, { on := 1, ground := Go.Ground.guard }], guard := some (1, false) }) (v := ?_) rfl (by kernel_rfl) (by kernel_rfl) (by kernel_rfl) (fun _ _ _ h => h) (Or.inl ⟨by rfl, ?_⟩) (by assumption) ?_
                    rotate_left
                    · intro w hSw
                      (try dsimp only at hSw)
                      go_simp
                      (try with_reducible rfl)
                    try simp only [Act.put, List.setIfInBounds_toArray, List.set_cons_zero, List.set_cons_succ]
                    refine wpAnyH_take (i := 6) (oi := { dst := some 48, op := Go.Op.move (Go.Operand.tmp 3), type := 36, pos := "l11_live.go:62", after := #[{ on := 1, ground := Go.Ground.guard }], guard := some (1, false) }) (v := ?_) rfl (by kernel_rfl) (by kernel_rfl) (by kernel_rfl) (fun _ _ _ h => h) (Or.inl ⟨by rfl, ?_⟩) (by assumption) ?_
                    rotate_left
                    · intro w hSw
                      (try dsimp only at hSw)
                      go_simp
                      (try with_reducible rfl)
                    try simp only [Act.put, List.setIfInBounds_toArray, List.set_cons_zero, List.set_cons_succ]
                    refine wpAnyH_take (i := 7) (oi := { dst := some 49, op := Go.Op.move (Go.Operand.tmp 6), type := 3, pos := "l11_live.go:62", after := #[{ on := 1, ground := Go.Ground.guard }], guard := some (1, false) }) (v := ?_) rfl (by kernel_rfl) (by kernel_rfl) (by kernel_rfl) (fun _ _ _ h => h) (Or.inl ⟨by rfl, ?_⟩) (by assumption) ?_
                    rotate_left
                    · intro w hSw
                      (try dsimp only at hSw)
                      go_simp
                      (try with_reducible rfl)
                    try simp only [Act.put, List.setIfInBounds_toArray, List.set_cons_zero, List.set_cons_succ]
                    refine wpAnyH_take (i := 8) (oi := { dst := some 50, op := Go.Op.indexAddr 36 (Go.Operand.tmp 48) (Go.Operand.tmp 49), type := 0, pos := "l11_live.go:62", after := #[{ on := 6, ground := Go.Ground.data }, { on := 7, ground := Go.Ground.data }, { on := 1, ground := Go.Ground.guard }], guard := some (1, false) }) (v := ?_) rfl (by kernel_rfl) (by kernel_rfl) (by kernel_rfl) (fun _ _ _ h => h) (Or.inl ⟨by rfl, ?_⟩) (by assumption) ?_
                    rotate_left
                    · intro w hSw
                      (try dsimp only at hSw)
                      go_simp
                      (try with_reducible rfl)
                    try simp only [Act.put, List.setIfInBounds_toArray, List.set_cons_zero, List.set_cons_succ]
                    refine wpAnyH_take (i := 9) (oi := { dst := some 51, op := Go.Op.load 35 (Go.Operand.tmp 50), type := 35, pos := "l11_live.go:62", after := #[{ on := 8, ground := Go.Ground.data }, { on := 1, ground := Go.Ground.guard }], guard := some (1, false) }) (v := ?_) rfl (by kernel_rfl) (by kernel_rfl) (by kernel_rfl) (fun _ _ _ h => h) (Or.inl ⟨by rfl, ?_⟩) (by assumption) ?_
                    rotate_left
                    · intro w hSw
                      (try dsimp only at hSw)
                      go_simp
                      (try with_reducible rfl)
                    try simp only [Act.put, List.setIfInBounds_toArray, List.set_cons_zero, List.set_cons_succ]
                    refine wpAnyH_take (i := 10) (oi := { dst := some 52, op := Go.Op.move (Go.Operand.tmp 8), type := 3, pos := "l11_live.go:62", after := #[{ on := 1, ground := Go.Ground.guard }], guard := some (1, false) }) (v := ?_) rfl (by kernel_rfl) (by kernel_rfl) (by kernel_rfl) (fun _ _ _ h => h) (Or.inl ⟨by rfl, ?_⟩) (by assumption) ?_
                    rotate_left
                    · intro w hSw
                      (try dsimp only at hSw)
                      go_simp
                      (try with_reducible rfl)
                    try simp only [Act.put, List.setIfInBounds_toArray, List.set_cons_zero, List.set_cons_succ]
                    refine wpAnyH_take (i := 11) (oi := { dst := some 53, op := Go.Op.indexAddr 35 (Go.Operand.tmp 51) (Go.Operand.tmp 52), type := 0, pos := "l11_live.go:62", after := #[{ on := 9, ground := Go.Ground.data }, { on := 10, ground := Go.Ground.data }, { on := 1, ground := Go.Ground.guard }], guard := some (1, false) }) (v := ?_) rfl (by kernel_rfl) (by kernel_rfl) (by kernel_rfl) (fun _ _ _ h => h) (Or.inl ⟨by rfl, ?_⟩) (by assumption) ?_
                    rotate_left
                    · intro w hSw
                      (try dsimp only at hSw)
                      go_simp
                      (try with_reducible rfl)
                    try simp only [Act.put, List.setIfInBounds_toArray, List.set_cons_zero, List.set_cons_succ]
                    refine wpAnyH_take (i := 12) (oi := { dst := some 54, op := Go.Op.load 4 (Go.Operand.tmp 53), type := 4, pos := "l11_live.go:62", after := #[{ on := 11, ground := Go.Ground.data }, { on := 1, ground := Go.Ground.guard }], guard := some (1, false) }) (v := ?_) rfl (by kernel_rfl) (by kernel_rfl) (by kernel_rfl) (fun _ _ _ h => h) (Or.inl ⟨by rfl, ?_⟩) (by assumption) ?_
                    rotate_left
                    · intro w hSw
                      (try dsimp only at hSw)
                      go_simp
                      (try with_reducible rfl)
                    try simp only [Act.put, List.setIfInBounds_toArray, List.set_cons_zero, List.set_cons_succ]
                    refine wpAnyH_take (i := 13) (oi := { dst := some 55, op := Go.Op.binOp Go.BinOp.neq 4 (Go.Operand.tmp 47) (Go.Operand.tmp 54) 4, type := 4, pos := "l11_live.go:62", after := #[{ on := 5, ground := Go.Ground.data }, { on := 12, ground := Go.Ground.data }, { on := 1, ground := Go.Ground.guard }], guard := some (1, false) }) (v := ?_) rfl (by kernel_rfl) (by kernel_rfl) (by kernel_rfl) (fun _ _ _ h => h) (Or.inl ⟨by rfl, ?_⟩) (by assumption) ?_
                    rotate_left
                    · intro w hSw
                      (try dsimp only at hSw)
                      go_simp
                      (try with_reducible rfl)
                    try simp only [Act.put, List.setIfInBounds_toArray, List.set_cons_zero, List.set_cons_succ]
                    refine wpAnyH_take (i := 14) (oi := { dst := some 56, op := Go.Op.pick (Go.Operand.tmp 43) (Go.Operand.const (Go.Value.bool true)) (Go.Operand.tmp 55), type := 4, pos := "l11_live.go:62", after := #[{ on := 1, ground := Go.Ground.data }, { on := 13, ground := Go.Ground.data }], guard := none }) (v := ?_) rfl (by kernel_rfl) (by kernel_rfl) (by kernel_rfl) (fun _ _ _ h => h) (Or.inl ⟨by rfl, ?_⟩) (by assumption) ?_
                    rotate_left
                    · intro w hSw
                      (try dsimp only at hSw)
                      go_simp
                      (try with_reducible rfl)
                    try simp only [Act.put, List.setIfInBounds_toArray, List.set_cons_zero, List.set_cons_succ]
                    refine wpAnyH_take (i := 15) (oi := { dst := some 5, op := Go.Op.assign (Go.Operand.tmp 56), type := 4, pos := "l11_live.go:62", after := #[{ on := 14, ground := Go.Ground.data }, { on := 1, ground := Go.Ground.chain }, { on := 0, ground := Go.Ground.phase }, { on := 1, ground := Go.Ground.phase }, { on := 2, ground := Go.Ground.phase }, { on := 3, ground := Go.Ground.phase }, { on := 4, ground := Go.Ground.phase }, { on := 5, ground := Go.Ground.phase }, { on := 6, ground := Go.Ground.phase }, { on := 7, ground := Go.Ground.phase }, { on := 8, ground := Go.Ground.phase }, { on := 9, ground := Go.Ground.phase }, { on := 10, ground := Go.Ground.phase }, { on := 11, ground := Go.Ground.phase }, { on := 12, ground := Go.Ground.phase }, { on := 13, ground := Go.Ground.phase }, { on := 14, ground := Go.Ground.phase }], guard := none }) (v := ?_) rfl (by kernel_rfl) (by kernel_rfl) (by kernel_rfl) (fun _ _ _ h => h) (Or.inl ⟨by rfl, ?_⟩) (by assumption) ?_
                    rotate_left
                    · intro w hSw
                      (try dsimp only at hSw)
                      go_simp
                      (try with_reducible rfl)
                    try simp only [Act.put, List.setIfInBounds_toArray, List.set_cons_zero, List.set_cons_succ]
                    refine wpAnyH_done (by kernel_rfl) ?_ _
                    clear hHeld
                    simp only [Exit.inBlock, Exit.then]
                    go_at_K
                    go_wp2_with fail
                    go_roundw
                    case rel => exact ⟨z + 1, _, by omega, by simp, by rfl, (by have := HMV.out; have := HT1.out; have := HT2.out; exact diff_next HMV.out HT1.out HT2.out), BZ.out.trans (Below.refl _ _).drew⟩
                    case measure => simp [intOf]; omega
                  · go_wp2_with fail
                    refine wp_region_held_drew (S := (fun w' => w'.cell? ⟨g2, z, none⟩ = some (.bool t1) ∧ w'.cell? ⟨g, c, none⟩ = some (.slice (some ⟨go, 0, none⟩) V capo) ∧ w'.cell? ⟨go, z, none⟩ = some (.bool t2))) (by kernel_rfl) ⟨r1, r2, r3⟩ (fun hHeld => ?_)
                    refine wpAnyH_take (i := 0) (oi := { dst := some 42, op := Go.Op.move (Go.Operand.tmp 5), type := 4, pos := "l11_live.go:62", after := #[], guard := none }) (v := ?_) rfl (by kernel_rfl) (by kernel_rfl) (by kernel_rfl) (fun _ _ _ h => h) (Or.inl ⟨by rfl, ?_⟩) (by assumption) ?_
                    rotate_left
                    · intro w hSw
                      (try dsimp only at hSw)
                      go_simp
                      (try with_reducible rfl)
                    try simp only [Act.put, List.setIfInBounds_toArray, List.set_cons_zero, List.set_cons_succ]
                    refine wpAnyH_take (i := 1) (oi := { dst := some 43, op := Go.Op.move (Go.Operand.tmp 42), type := 4, pos := "l11_live.go:62", after := #[{ on := 0, ground := Go.Ground.data }], guard := none }) (v := ?_) rfl (by kernel_rfl) (by kernel_rfl) (by kernel_rfl) (fun _ _ _ h => h) (Or.inl ⟨by rfl, ?_⟩) (by assumption) ?_
                    rotate_left
                    · intro w hSw
                      (try dsimp only at hSw)
                      go_simp
                      (try with_reducible rfl)
                    try simp only [Act.put, List.setIfInBounds_toArray, List.set_cons_zero, List.set_cons_succ]
                    refine wpAnyH_take (i := 2) (oi := { dst := some 44, op := Go.Op.move (Go.Operand.tmp 7), type := 35, pos := "l11_live.go:62", after := #[{ on := 1, ground := Go.Ground.guard }], guard := some (1, false) }) (v := undef) rfl (by kernel_rfl) (by kernel_rfl) (by kernel_rfl) (fun _ _ _ h => h) (Or.inr ⟨by rfl, rfl⟩) (by assumption) ?_
                    try simp only [Act.put, List.setIfInBounds_toArray, List.set_cons_zero, List.set_cons_succ]
                    refine wpAnyH_take (i := 3) (oi := { dst := some 45, op := Go.Op.move (Go.Operand.tmp 8), type := 3, pos := "l11_live.go:62", after := #[{ on := 1, ground := Go.Ground.guard }], guard := some (1, false) }) (v := undef) rfl (by kernel_rfl) (by kernel_rfl) (by kernel_rfl) (fun _ _ _ h => h) (Or.inr ⟨by rfl, rfl⟩) (by assumption) ?_
                    try simp only [Act.put, List.setIfInBounds_toArray, List.set_cons_zero, List.set_cons_succ]
                    refine wpAnyH_take (i := 4) (oi := { dst := some 46, op := Go.Op.indexAddr 35 (Go.Operand.tmp 44) (Go.Operand.tmp 45), type := 0, pos := "l11_live.go:62", after := #[{ on := 2, ground := Go.Ground.data }, { on := 3, ground := Go.Ground.data }, { on := 1, ground := Go.Ground.guard }], guard := some (1, false) }) (v := undef) rfl (by kernel_rfl) (by kernel_rfl) (by kernel_rfl) (fun _ _ _ h => h) (Or.inr ⟨by rfl, rfl⟩) (by assumption) ?_
                    try simp only [Act.put, List.setIfInBounds_toArray, List.set_cons_zero, List.set_cons_succ]
                    refine wpAnyH_take (i := 5) (oi := { dst := some 47, op := Go.Op.load 4 (Go.Operand.tmp 46), type := 4, pos := "l11_live.go:62", after := #[{ on := 4, ground := Go.Ground.data }, { on := 1, ground := Go.Ground.guard }], guard := some (1, false) }) (v := undef) rfl (by kernel_rfl) (by kernel_rfl) (by kernel_rfl) (fun _ _ _ h => h) (Or.inr ⟨by rfl, rfl⟩) (by assumption) ?_
                    try simp only [Act.put, List.setIfInBounds_toArray, List.set_cons_zero, List.set_cons_succ]
                    refine wpAnyH_take (i := 6) (oi := { dst := some 48, op := Go.Op.move (Go.Operand.tmp 3), type := 36, pos := "l11_live.go:62", after := #[{ on := 1, ground := Go.Ground.guard }], guard := some (1, false) }) (v := undef) rfl (by kernel_rfl) (by kernel_rfl) (by kernel_rfl) (fun _ _ _ h => h) (Or.inr ⟨by rfl, rfl⟩) (by assumption) ?_
                    try simp only [Act.put, List.setIfInBounds_toArray, List.set_cons_zero, List.set_cons_succ]
                    refine wpAnyH_take (i := 7) (oi := { dst := some 49, op := Go.Op.move (Go.Operand.tmp 6), type := 3, pos := "l11_live.go:62", after := #[{ on := 1, ground := Go.Ground.guard }], guard := some (1, false) }) (v := undef) rfl (by kernel_rfl) (by kernel_rfl) (by kernel_rfl) (fun _ _ _ h => h) (Or.inr ⟨by rfl, rfl⟩) (by assumption) ?_
                    try simp only [Act.put, List.setIfInBounds_toArray, List.set_cons_zero, List.set_cons_succ]
                    refine wpAnyH_take (i := 8) (oi := { dst := some 50, op := Go.Op.indexAddr 36 (Go.Operand.tmp 48) (Go.Operand.tmp 49), type := 0, pos := "l11_live.go:62", after := #[{ on := 6, ground := Go.Ground.data }, { on := 7, ground := Go.Ground.data }, { on := 1, ground := Go.Ground.guard }], guard := some (1, false) }) (v := undef) rfl (by kernel_rfl) (by kernel_rfl) (by kernel_rfl) (fun _ _ _ h => h) (Or.inr ⟨by rfl, rfl⟩) (by assumption) ?_
                    try simp only [Act.put, List.setIfInBounds_toArray, List.set_cons_zero, List.set_cons_succ]
                    refine wpAnyH_take (i := 9) (oi := { dst := some 51, op := Go.Op.load 35 (Go.Operand.tmp 50), type := 35, pos := "l11_live.go:62", after := #[{ on := 8, ground := Go.Ground.data }, { on := 1, ground := Go.Ground.guard }], guard := some (1, false) }) (v := undef) rfl (by kernel_rfl) (by kernel_rfl) (by kernel_rfl) (fun _ _ _ h => h) (Or.inr ⟨by rfl, rfl⟩) (by assumption) ?_
                    try simp only [Act.put, List.setIfInBounds_toArray, List.set_cons_zero, List.set_cons_succ]
                    refine wpAnyH_take (i := 10) (oi := { dst := some 52, op := Go.Op.move (Go.Operand.tmp 8), type := 3, pos := "l11_live.go:62", after := #[{ on := 1, ground := Go.Ground.guard }], guard := some (1, false) }) (v := undef) rfl (by kernel_rfl) (by kernel_rfl) (by kernel_rfl) (fun _ _ _ h => h) (Or.inr ⟨by rfl, rfl⟩) (by assumption) ?_
                    try simp only [Act.put, List.setIfInBounds_toArray, List.set_cons_zero, List.set_cons_succ]
                    refine wpAnyH_take (i := 11) (oi := { dst := some 53, op := Go.Op.indexAddr 35 (Go.Operand.tmp 51) (Go.Operand.tmp 52), type := 0, pos := "l11_live.go:62", after := #[{ on := 9, ground := Go.Ground.data }, { on := 10, ground := Go.Ground.data }, { on := 1, ground := Go.Ground.guard }], guard := some (1, false) }) (v := undef) rfl (by kernel_rfl) (by kernel_rfl) (by kernel_rfl) (fun _ _ _ h => h) (Or.inr ⟨by rfl, rfl⟩) (by assumption) ?_
                    try simp only [Act.put, List.setIfInBounds_toArray, List.set_cons_zero, List.set_cons_succ]
                    refine wpAnyH_take (i := 12) (oi := { dst := some 54, op := Go.Op.load 4 (Go.Operand.tmp 53), type := 4, pos := "l11_live.go:62", after := #[{ on := 11, ground := Go.Ground.data }, { on := 1, ground := Go.Ground.guard }], guard := some (1, false) }) (v := undef) rfl (by kernel_rfl) (by kernel_rfl) (by kernel_rfl) (fun _ _ _ h => h) (Or.inr ⟨by rfl, rfl⟩) (by assumption) ?_
                    try simp only [Act.put, List.setIfInBounds_toArray, List.set_cons_zero, List.set_cons_succ]
                    refine wpAnyH_take (i := 13) (oi := { dst := some 55, op := Go.Op.binOp Go.BinOp.neq 4 (Go.Operand.tmp 47) (Go.Operand.tmp 54) 4, type := 4, pos := "l11_live.go:62", after := #[{ on := 5, ground := Go.Ground.data }, { on := 12, ground := Go.Ground.data }, { on := 1, ground := Go.Ground.guard }], guard := some (1, false) }) (v := undef) rfl (by kernel_rfl) (by kernel_rfl) (by kernel_rfl) (fun _ _ _ h => h) (Or.inr ⟨by rfl, rfl⟩) (by assumption) ?_
                    try simp only [Act.put, List.setIfInBounds_toArray, List.set_cons_zero, List.set_cons_succ]
                    refine wpAnyH_take (i := 14) (oi := { dst := some 56, op := Go.Op.pick (Go.Operand.tmp 43) (Go.Operand.const (Go.Value.bool true)) (Go.Operand.tmp 55), type := 4, pos := "l11_live.go:62", after := #[{ on := 1, ground := Go.Ground.data }, { on := 13, ground := Go.Ground.data }], guard := none }) (v := ?_) rfl (by kernel_rfl) (by kernel_rfl) (by kernel_rfl) (fun _ _ _ h => h) (Or.inl ⟨by rfl, ?_⟩) (by assumption) ?_
                    rotate_left
                    · intro w hSw
                      (try dsimp only at hSw)
                      go_simp
                      (try with_reducible rfl)
                    try simp only [Act.put, List.setIfInBounds_toArray, List.set_cons_zero, List.set_cons_succ]
                    refine wpAnyH_take (i := 15) (oi := { dst := some 5, op := Go.Op.assign (Go.Operand.tmp 56), type := 4, pos := "l11_live.go:62", after := #[{ on := 14, ground := Go.Ground.data }, { on := 1, ground := Go.Ground.chain }, { on := 0, ground := Go.Ground.phase }, { on := 1, ground := Go.Ground.phase }, { on := 2, ground := Go.Ground.phase }, { on := 3, ground := Go.Ground.phase }, { on := 4, ground := Go.Ground.phase }, { on := 5, ground := Go.Ground.phase }, { on := 6, ground := Go.Ground.phase }, { on := 7, ground := Go.Ground.phase }, { on := 8, ground := Go.Ground.phase }, { on := 9, ground := Go.Ground.phase }, { on := 10, ground := Go.Ground.phase }, { on := 11, ground := Go.Ground.phase }, { on := 12, ground := Go.Ground.phase }, { on := 13, ground := Go.Ground.phase }, { on := 14, ground := Go.Ground.phase }], guard := none }) (v := ?_) rfl (by kernel_rfl) (by kernel_rfl) (by kernel_rfl) (fun _ _ _ h => h) (Or.inl ⟨by rfl, ?_⟩) (by assumption) ?_
                    rotate_left
                    · intro w hSw
                      (try dsimp only at hSw)
                      go_simp
                      (try with_reducible rfl)
                    try simp only [Act.put, List.setIfInBounds_toArray, List.set_cons_zero, List.set_cons_succ]
                    refine wpAnyH_done (by kernel_rfl) ?_ _
                    clear hHeld
                    simp only [Exit.inBlock, Exit.then]
                    go_at_K
                    go_wp2_with fail
                    go_roundw
                    case rel => exact ⟨z + 1, true, by omega, by simp, by rfl, (by have := HMV.out; have := HT1.out; have := HT2.out; exact diff_next HMV.out HT1.out HT2.out), BZ.out.trans (Below.refl _ _).drew⟩
                    case measure => simp [intOf]; omega
                · have ezV : V = z := by omega
                  have hfin : Diff m' (inF F is c) (is c) V mv := by rw [ezV]; exact HMV.out
                  have MZ := M2.out.keep BZ.out
                  obtain ⟨⟨u, p1⟩, p2, p3⟩ := MZ.put hcn (O2.out.keep BZ.out)
                  have HP3 : Hid (MatO (wz.setCell ⟨g, c, none⟩ (.slice (some ⟨g2, 0, none⟩) V cap2)) (w.heap.size + 1) g n V (updL is c (inF F is c))) := p3
                  have HFIN : Hid (Diff m' (inF F is c) (is c) V mv) := hfin
                  have HEZ : Hid (V = z) := ezV
                  clear MZ p3 hfin ezV
                  go_wp2_with fail
                  obtain ⟨hl1, hl2⟩ := OK2.out.longer c
                  have hl3 : (inF F is c).length ≤ 80 := asc_small (inF_ok F is c).1 (inF_ok F is c).2
                  have hru := room_upd (n := n) (ins := is) hcn (l := inF F is c) hl1 hl3
                  have hbel : Below (w.heap.size + 1) wB (wz.setCell ⟨g, c, none⟩ (.slice (some ⟨g2, 0, none⟩) V cap2)) := (BX.out.trans ((B2.out.mono (by have := BX.out.size; omega)).trans (BZ.out.mono (by have := BX.out.size; have := B2.out.size; omega)))).setCell (p := ⟨g, c, none⟩) MX.out.low _
                  have hvs3 : ∀ b, ∀ z ∈ updL is c (inF F is c) b, z < (V : Int) := fun b z hz9 => by
                    unfold updL at hz9
                    split at hz9
                    · exact HP.out.inV VS2.out c z hz9
                    · exact VS2.out b z hz9
                  have hrm := HROOM.out
                  have hroom2 : roomL n (updL is c (inF F is c)) + (if mv then 1 else 0) ≤ roomL n ins ∧ (mv = false → ∀ q, c ≤ q → q < n → inF F (updL is c (inF F is c)) q = updL is c (inF F is c) q) := by
                    cases mv
                    · have hno : ¬ (m' = true ∨ ∃ q : Nat, q < V ∧ ¬ ((q : Int) ∈ inF F is c ↔ (q : Int) ∈ is c)) := fun h => by have := HFIN.out.2 h; cases this
                      have heq : inF F is c = is c := bits_inj (inF_ok F is c).1 (OK2.out.asc c) (inF_ok F is c).2 (OK2.out.small c) (HP.out.inV VS2.out c) (VS2.out c) (fun q hq => Classical.not_not.1 (fun h9 => hno (.inr ⟨q, hq, h9⟩)))
                      have hm : m' = false := by cases m'; rfl; exact absurd (Or.inl rfl) hno
                      rw [heq, updL_self]
                      refine ⟨by subst hm; simpa using hrm, fun _ q h1 h2 => ?_⟩
                      by_cases e : q = c
                      · subst e; exact heq
                      · exact HRD.out hm q (by omega) h2
                    · refine ⟨?_, fun h => by cases h⟩
                      rcases HFIN.out.1 rfl with h | ⟨q, hq, h9⟩
                      · subst h
                        simp at hrm ⊢
                        omega
                      · have hne : inF F is c ≠ is c := fun e => h9 (by rw [e])
                        have : ¬ (inF F is c).length ≤ (is c).length := fun e => hne (hl2 e)
                        simp
                        omega
                  refine ⟨⟨mv, c, updL is c (inF F is c), by omega, rfl, rfl, OK2.out.step c, hvs3, HP3.out, hbel, hroom2.1, hroom2.2⟩, ?_⟩
                  show ((c : Int) - 1 + 1).toNat < ((c : Int) + 1).toNat
                  omega
end Go.Proofs.Ytjfogpbhacadbaa
