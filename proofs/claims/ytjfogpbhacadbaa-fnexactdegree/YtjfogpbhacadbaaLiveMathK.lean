/- Which values are needed at the beginning of each block: the least that is closed, and how rounds come to it. -/
import Derived.Test.YtjfogpbhacadbaaLiveDefK
namespace Go.Proofs.Ytjfogpbhacadbaa
set_option linter.unusedVariables false

theorem asc_sub : ∀ {l m : List Int}, Asc l → Asc m → (∀ x ∈ l, x ∈ m) → List.Sublist l m
  | [], m, _, _, _ => List.nil_sublist m
  | a :: l, [], _, _, h => by have := h a (by simp); cases this
  | a :: l, b :: m, hl, hm, h => by
    have hl' := List.pairwise_cons.1 hl
    have hm' := List.pairwise_cons.1 hm
    by_cases e : a = b
    · subst e
      refine List.Sublist.cons_cons a (asc_sub hl'.2 hm'.2 (fun x hx => ?_))
      have := hl'.1 x hx
      rcases List.mem_cons.1 (h x (by simp [hx])) with e | hx2
      · omega
      · exact hx2
    · refine List.Sublist.cons b (asc_sub hl hm'.2 (fun x hx => ?_))
      rcases List.mem_cons.1 (h x hx) with e2 | hx2
      · subst e2
        rcases List.mem_cons.1 hx with e3 | hx3
        · exact absurd e3.symm e
        · have h1 := hl'.1 x hx3
          rcases List.mem_cons.1 (h a (by simp)) with e4 | h4
          · omega
          · have := hm'.1 a h4
            omega
      · exact hx2
/-- What is needed at the end of block b, by what is needed at the beginnings. -/
def outF (F : FnD) (ins : Nat → List Int) (b : Nat) : List Int := norm80 ((succsN F b).flatMap (fun s => ins s.toNat))
def inF (F : FnD) (ins : Nat → List Int) (b : Nat) : List Int := match F.blocks[b]? with | some x => atS x (outF F ins b) 0 | none => []
theorem inF_at {F : FnD} {ins : Nat → List Int} {b : Nat} {x : BlockD} (h : F.blocks[b]? = some x) : inF F ins b = atS x (outF F ins b) 0 := by simp [inF, h]
def ClosedL (F : FnD) (ins : Nat → List Int) : Prop := ∀ b, ∀ v ∈ inF F ins b, v ∈ ins b
/-- Needed: in all that is closed. -/
def LiveP (F : FnD) (b : Nat) (v : Int) : Prop := ∀ ins, ClosedL F ins → v ∈ ins b
theorem norm_mono {l m : List Int} (h : ∀ v ∈ l, v ∈ m) : ∀ v ∈ norm80 l, v ∈ norm80 m := fun v hv => by
  rw [norm_mem] at hv ⊢
  exact ⟨h v hv.1, hv.2⟩
theorem back_mono (y : InsD) {l m : List Int} (h : ∀ v ∈ l, v ∈ m) : ∀ v ∈ backS y l, v ∈ backS y m := norm_mono (fun v hv => by
  rcases List.mem_append.1 hv with hv | hv
  · rw [List.mem_filter] at hv
    exact List.mem_append.2 (.inl (List.mem_filter.2 ⟨h v hv.1, hv.2⟩))
  · exact List.mem_append.2 (.inr hv))
theorem atS_mono (x : BlockD) {o o' : List Int} (h : ∀ v ∈ o, v ∈ o') (j : Nat) : ∀ v ∈ atS x o j, v ∈ atS x o' j := by
  unfold atS
  generalize x.list.drop j = l
  induction l with
  | nil => exact norm_mono (fun v hv => by
      rcases List.mem_append.1 hv with hv | hv
      · exact List.mem_append.2 (.inl (h v hv))
      · exact List.mem_append.2 (.inr hv))
  | cons y l ih => exact back_mono y ih
theorem outF_mono (F : FnD) {i j : Nat → List Int} (h : ∀ b, ∀ v ∈ i b, v ∈ j b) (b : Nat) : ∀ v ∈ outF F i b, v ∈ outF F j b := norm_mono (fun v hv => by
  obtain ⟨s, hs, hv⟩ := List.mem_flatMap.1 hv
  exact List.mem_flatMap.2 ⟨s, hs, h _ v hv⟩)
theorem inF_mono (F : FnD) {i j : Nat → List Int} (h : ∀ b, ∀ v ∈ i b, v ∈ j b) (b : Nat) : ∀ v ∈ inF F i b, v ∈ inF F j b := by
  unfold inF
  split
  · exact atS_mono _ (outF_mono F h b) 0
  · exact fun v hv => hv
theorem inF_ok (F : FnD) (ins : Nat → List Int) (b : Nat) : Asc (inF F ins b) ∧ In80 (inF F ins b) := by
  unfold inF
  split
  · exact atS_ok _ _ _
  · exact ⟨asc_nil, fun x hx => by cases hx⟩
def updL (f : Nat → List Int) (b : Nat) (l : List Int) : Nat → List Int := fun i => if i = b then l else f i
theorem updL_same (f : Nat → List Int) (b : Nat) (l : List Int) : updL f b l b = l := if_pos rfl
theorem updL_other (f : Nat → List Int) {b i : Nat} (l : List Int) (h : i ≠ b) : updL f b l i = f i := if_neg h
theorem updL_self (f : Nat → List Int) (b : Nat) : updL f b (f b) = f := by
  funext i
  unfold updL
  split
  · rename_i h; rw [h]
  · rfl
/-- Rounds so far: ascending, needed, and no less than what they lead to. -/
structure LvOk (F : FnD) (ins : Nat → List Int) : Prop where
  asc : ∀ b, Asc (ins b)
  small : ∀ b, In80 (ins b)
  sound : ∀ b, ∀ v ∈ ins b, LiveP F b v
  grow : ∀ b, ∀ v ∈ ins b, v ∈ inF F ins b
theorem lvOk_start (F : FnD) : LvOk F (fun _ => []) := ⟨fun _ => asc_nil, fun _ x hx => (by cases hx), fun _ v hv => (by cases hv), fun _ v hv => (by cases hv)⟩
theorem LvOk.step {F : FnD} {ins : Nat → List Int} (h : LvOk F ins) (b : Nat) : LvOk F (updL ins b (inF F ins b)) := by
  have hsub : ∀ i, ∀ v ∈ ins i, v ∈ updL ins b (inF F ins b) i := fun i v hv => by
    unfold updL
    split
    · rename_i e; subst e; exact h.grow i v hv
    · exact hv
  refine ⟨fun i => ?_, fun i => ?_, fun i v hv => ?_, fun i v hv => ?_⟩
  · unfold updL; split
    · exact (inF_ok F ins b).1
    · exact h.asc i
  · unfold updL; split
    · exact (inF_ok F ins b).2
    · exact h.small i
  · unfold updL at hv
    split at hv
    · rename_i e
      subst e
      intro C hC
      exact hC _ v (inF_mono F (fun b u hu => h.sound b u hu C hC) i v hv)
    · exact h.sound i v hv
  · unfold updL at hv
    split at hv
    · rename_i e; subst e; exact inF_mono F hsub i v hv
    · exact inF_mono F hsub i v (h.grow i v hv)
theorem LvOk.done {F : FnD} {ins : Nat → List Int} (h : LvOk F ins) (hc : ∀ b, b < F.blocks.length → inF F ins b = ins b) (b : Nat) (v : Int) : v ∈ ins b ↔ LiveP F b v := by
  refine ⟨h.sound b v, fun hl => hl ins (fun i u hu => ?_)⟩
  by_cases hi : i < F.blocks.length
  · rw [hc i hi] at hu; exact hu
  · unfold inF at hu
    rw [List.getElem?_eq_none (by omega)] at hu
    cases hu
open Classical in
noncomputable def liveL (F : FnD) (b : Nat) : List Int := ((List.range 80).map (fun (j : Nat) => (j : Int))).filter (fun v => decide (LiveP F b v))
theorem liveL_asc (F : FnD) (b : Nat) : Asc (liveL F b) := by
  unfold liveL Asc
  refine List.Pairwise.filter _ ?_
  rw [List.pairwise_map]
  exact List.pairwise_lt_range.imp (fun h => by omega)
theorem liveL_mem (F : FnD) (b : Nat) (v : Int) : v ∈ liveL F b ↔ LiveP F b v ∧ 0 ≤ v ∧ v < 80 := by
  unfold liveL
  rw [List.mem_filter]
  simp only [List.mem_map, List.mem_range, decide_eq_true_eq]
  constructor
  · rintro ⟨⟨j, hj, rfl⟩, h⟩
    exact ⟨h, by omega, by omega⟩
  · rintro ⟨h, h0, h1⟩
    exact ⟨⟨v.toNat, by omega, by omega⟩, h⟩
theorem LvOk.eq {F : FnD} {ins : Nat → List Int} (h : LvOk F ins) (hc : ∀ b, b < F.blocks.length → inF F ins b = ins b) : ins = liveL F := by
  funext b
  refine asc_ext (h.asc b) (liveL_asc F b) (fun v => ?_)
  rw [liveL_mem, ← h.done hc b v]
  exact ⟨fun hv => ⟨hv, h.small b v hv⟩, fun hv => hv.1⟩
/-- Longer, or the same. -/
theorem LvOk.longer {F : FnD} {ins : Nat → List Int} (h : LvOk F ins) (b : Nat) : (ins b).length ≤ (inF F ins b).length ∧ ((inF F ins b).length ≤ (ins b).length → inF F ins b = ins b) := by
  have hs : List.Sublist (ins b) (inF F ins b) := asc_sub (h.asc b) (inF_ok F ins b).1 (h.grow b)
  exact ⟨hs.length_le, fun hl => (hs.eq_of_length_le hl).symm⟩
/-- How much room there is. -/
def roomL (n : Nat) (ins : Nat → List Int) : Nat := ((List.range n).map (fun b => 80 - (ins b).length)).sum
theorem room_upd {n : Nat} {ins : Nat → List Int} {b : Nat} (hb : b < n) {l : List Int} (h1 : (ins b).length ≤ l.length) (h2 : l.length ≤ 80) : roomL n (updL ins b l) + (l.length - (ins b).length) = roomL n ins := by
  unfold roomL
  induction n with
  | zero => omega
  | succ n ih =>
    rw [List.range_succ, List.map_append, List.map_append, List.sum_append, List.sum_append]
    simp only [List.map_cons, List.map_nil, List.sum_cons, List.sum_nil, Nat.add_zero]
    by_cases e : b = n
    · subst e
      rw [updL_same]
      have : (List.range b).map (fun i => 80 - (updL ins b l i).length) = (List.range b).map (fun i => 80 - (ins i).length) := by
        apply List.map_congr_left
        intro i hi
        rw [updL_other ins l (by have := List.mem_range.1 hi; omega)]
      rw [this]
      omega
    · rw [updL_other ins l (fun h => e h.symm)]
      have := ih (by omega)
      omega
end Go.Proofs.Ytjfogpbhacadbaa
