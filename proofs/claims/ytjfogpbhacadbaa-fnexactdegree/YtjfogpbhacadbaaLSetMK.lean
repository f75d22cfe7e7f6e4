/- The program's sets: copy, add and drop, by their contracts. -/
import Derived.Test.YtjfogpbhacadbaaLSetK
import Derived.Test.YtjfogpbhacadbaaKMark
namespace Go.Proofs.Ytjfogpbhacadbaa
open Go.ChangeShapes Go.WideShapes Go.ChangeAt Go.RowKit
set_option linter.unusedVariables false

/-- A set lies at cell o of block g. -/
structure SetIn (w : World) (lo g o : Nat) (sv : Value) (l : List Int) : Prop where
  cell : w.cell? ⟨g, o, none⟩ = some sv
  fz : w.frozen? ⟨g, o, none⟩ = false
  row : OwnInts w lo sv l
  ne : sv.ownBlock ≠ some g
/-- Nothing has turned but cell o of block g, and block ob. -/
structure SetTurn (w w' : World) (g o : Nat) (ob : Option Nat) (sv' : Value) : Prop where
  os : w'.os = w.os
  tape : w'.tape = w.tape
  output : w'.output = w.output
  size : w.heap.size ≤ w'.heap.size
  block : ∀ k, k < w.heap.size → k ≠ g → some k ≠ ob → w'.heap[k]? = w.heap[k]?
  box : ∀ us e z, w.heap[g]? = some (.cells us e z) → w'.heap[g]? = some (.cells (us.setIfInBounds o sv') e z)
theorem setIn_box {w : World} {lo g o : Nat} {sv : Value} {l : List Int} (h : SetIn w lo g o sv l) : ∃ us e z, w.heap[g]? = some (.cells us e z) ∧ us[o]? = some sv := by
  have := h.cell
  unfold World.cell? at this
  dsimp only at this
  cases e : w.heap[g]? with
  | none => rw [e] at this; cases this
  | some ob =>
    rw [e] at this
    cases ob with
    | cells c t z => exact ⟨c, t, z, rfl, this⟩
    | _ => cases this
theorem SetIn.lt {w : World} {lo g o : Nat} {sv : Value} {l : List Int} (h : SetIn w lo g o sv l) : g < w.heap.size := by
  obtain ⟨us, e, z, hb, _⟩ := setIn_box h
  exact (Array.getElem?_eq_some_iff.1 hb).1
theorem put_self {us : Array Value} {o : Nat} {sv : Value} (h : us[o]? = some sv) : us.setIfInBounds o sv = us := by
  obtain ⟨hlt, e⟩ := Array.getElem?_eq_some_iff.1 h
  apply Array.ext_getElem?
  intro i
  rw [Array.getElem?_setIfInBounds]
  split
  · rename_i e2
    subst e2
    rw [h]
    try simp [hlt]
  · rfl
theorem SetTurn.refl {w : World} {lo g o : Nat} {sv : Value} {l : List Int} (h : SetIn w lo g o sv l) (ob : Option Nat) : SetTurn w w g o ob sv := by
  refine ⟨rfl, rfl, rfl, Nat.le_refl _, fun _ _ _ _ => rfl, fun us e z hb => ?_⟩
  obtain ⟨us', e', z', hb', hu⟩ := setIn_box h
  rw [hb] at hb'
  cases hb'
  rw [put_self hu]
  exact hb
/-- A step that turns the list, or lays it anew, and then puts it. -/
theorem SetTurn.step {w w1 w2 : World} {g o : Nat} {ob : Option Nat} {sv1 sv2 : Value} (h : SetTurn w w1 g o ob sv1) (hg : w1.grownBy w2 sv1.ownBlock) (hlt : g < w1.heap.size) (hne : sv1.ownBlock ≠ some g) (hw : sv1.ownBlock = ob ∨ ∀ b, sv1.ownBlock = some b → w.heap.size ≤ b) :
    SetTurn w (w2.setCell ⟨g, o, none⟩ sv2) g o ob sv2 := by
  have hsz : (w2.setCell ⟨g, o, none⟩ sv2).heap.size = w2.heap.size := by show (w2.heap.modify _ _).size = _; simp
  refine ⟨hg.os.trans h.os, hg.tape.trans h.tape, hg.output.trans h.output, by rw [hsz]; exact Nat.le_trans h.size hg.size, fun k hk h1 h2 => ?_, fun us e z hb => ?_⟩
  · refine (Below.heap_setCell _ _ _ k (by intro e; exact h1 e)).trans ((hg.block k (Nat.lt_of_lt_of_le hk h.size) (fun e => ?_)).trans (h.block k hk h1 h2))
    rcases hw with e2 | e2
    · exact h2 (e.trans e2)
    · have := e2 k e.symm
      omega
  · have h1 := h.box us e z hb
    have h2 := (hg.block g hlt (fun e => hne e.symm)).trans h1
    obtain ⟨hl, hk⟩ := Array.getElem?_eq_some_iff.1 h2
    show (w2.heap.modify g _)[g]? = _
    rw [Array.getElem?_eq_getElem (by rw [Array.size_modify]; exact hl), Array.getElem_modify_self, hk]
    show some (Obj.cells ((us.setIfInBounds o sv1).setIfInBounds o sv2) e z) = _
    congr 2
    simp
theorem SetTurn.drewN {w w1 : World} {g o : Nat} {ob : Option Nat} {sv1 : Value} (h : SetTurn w w1 g o ob sv1) (q : Nat) : SetTurn w (w1.drewN q) g o ob sv1 := ⟨h.os, h.tape, h.output, h.size, h.block, h.box⟩
theorem SetIn.drewN {w : World} {lo g o : Nat} {sv : Value} {l : List Int} (h : SetIn w lo g o sv l) (q : Nat) : SetIn (w.drewN q) lo g o sv l := ⟨h.cell, h.fz, h.row, h.ne⟩
theorem OwnInts.drewN {w : World} {lo : Nat} {sv : Value} {l : List Int} (h : OwnInts w lo sv l) (q : Nat) : OwnInts (w.drewN q) lo sv l := h
theorem OwnInts.putAt {w : World} {lo g : Nat} {v : Value} {l : List Int} (h : OwnInts w lo v l) (hne : v.ownBlock ≠ some g) (o : Nat) (u : Value) : OwnInts (w.setCell ⟨g, o, none⟩ u) lo v l := by
  rcases h with ⟨h0, h1 | ⟨g', cap, cur, rfl, h2, h3, h4⟩⟩
  · exact ⟨h0, .inl h1⟩
  · exact ⟨h0, .inr ⟨g', cap, cur, rfl, h2, (Below.heap_setCell _ _ _ g' (by intro e; exact hne (by simp [Value.ownBlock]; exact e))).trans h3, h4⟩⟩
theorem setIn_put {w1 w2 : World} {lo g o : Nat} {sv1 sv2 : Value} {l1 l2 : List Int} (h : SetIn w1 lo g o sv1 l1) (hg : w1.grownBy w2 sv1.ownBlock) (hr : OwnInts w2 lo sv2 l2) (hat : sv2.ownBlock = sv1.ownBlock ∨ sv2.ownBlock = some w1.heap.size) : (w2.cell? ⟨g, o, none⟩ = some sv1 ∧ w2.frozen? ⟨g, o, none⟩ = false) ∧ SetIn (w2.setCell ⟨g, o, none⟩ sv2) lo g o sv2 l2 := by
  have hlt := h.lt
  have hb : w2.heap[g]? = w1.heap[g]? := hg.block g hlt (fun e => h.ne e.symm)
  have hc : w2.cell? ⟨g, o, none⟩ = some sv1 := (World.cell?_of_block (a := ⟨g, o, none⟩) hb).trans h.cell
  have hf : w2.frozen? ⟨g, o, none⟩ = false := (World.frozen?_of_block (a := ⟨g, o, none⟩) hb).trans h.fz
  have hne : sv2.ownBlock ≠ some g := by
    rcases hat with e | e
    · rw [e]; exact h.ne
    · rw [e]; intro e2; cases e2; omega
  exact ⟨⟨hc, hf⟩, World.cell?_setCell_same' _ _ _ (by rw [hc]; rfl), by rw [World.frozen?_setCell]; exact hf, hr.putAt hne _ _, hne⟩

theorem SetIn.keep {w w' : World} {lo g o : Nat} {sv : Value} {l : List Int} (h : SetIn w lo g o sv l) (hb : Below w.heap.size w w') : SetIn w' lo g o sv l :=
  ⟨Bel.keeps hb h.cell, (World.frozen?_of_block (a := ⟨g, o, none⟩) (hb.block g h.lt)).trans h.fz, h.row.keep hb, h.ne⟩
theorem SetTurn.keep {w w1 w2 : World} {lo g o : Nat} {ob : Option Nat} {sv1 : Value} {l : List Int} (h : SetTurn w w1 g o ob sv1) (hb : Below w1.heap.size w1 w2) (hs : SetIn w1 lo g o sv1 l) : SetTurn w w2 g o ob sv1 :=
  ⟨hb.os.trans h.os, hb.tape.trans h.tape, hb.output.trans h.output, Nat.le_trans h.size hb.size, fun k hk h1 h2 => (hb.block k (Nat.lt_of_lt_of_le hk h.size)).trans (h.block k hk h1 h2), fun us e z hu => (hb.block g hs.lt).trans (h.box us e z hu)⟩
/-- What add gives: more in the set. -/
def SetGrew (w : World) (lo g o : Nat) (sv : Value) (l m : List Int) (w' : World) : Prop := ∃ sv' l', SetIn w' lo g o sv' l' ∧ Asc l' ∧ In80 l' ∧ (∀ x, x ∈ l' ↔ x ∈ l ∨ x ∈ m) ∧ SetTurn w w' g o sv.ownBlock sv' ∧ (sv'.ownBlock = sv.ownBlock ∨ ∀ b, sv'.ownBlock = some b → w.heap.size ≤ b)
def SetLess (w : World) (lo g o : Nat) (sv : Value) (l : List Int) (v : Int) (w' : World) : Prop := ∃ sv' l', SetIn w' lo g o sv' l' ∧ Asc l' ∧ In80 l' ∧ (∀ x, x ∈ l' ↔ x ∈ l ∧ x ≠ v) ∧ SetTurn w w' g o sv.ownBlock sv' ∧ (sv'.ownBlock = sv.ownBlock ∨ ∀ b, sv'.ownBlock = some b → w.heap.size ≤ b)

set_option maxRecDepth 100000 in
set_option maxHeartbeats 4000000 in
theorem drop_any (lo g o : Nat) (sv : Value) (l : List Int) (v : Int) (w : World) (hs : SetIn w lo g o sv l) (ha : Asc l) (hr : In80 l) :
    Calls Try.prog 48 #[.pointer (some ⟨g, o, none⟩), .int .i64 v] w fun e w' => (∃ r, e = .returned r) ∧ SetLess w lo g o sv l v w' := by
  have HS : Hid (SetIn w lo g o sv l) := hs
  have HA : Hid (Asc l) := ha
  have HR : Hid (In80 l) := hr
  have c0 := hs.cell
  obtain ⟨bb, HB⟩ : ∃ b, Hid (l.contains v = b) := ⟨_, rfl⟩
  obtain ⟨K, HK⟩ : ∃ K, Hid (cutOf l v = K) := ⟨_, rfl⟩
  have hsr := search_any lo sv l v w hs.row ha (asc_small ha hr)
  rw [HB.out, HK.out] at hsr
  have HSR : Hid (Calls Try.prog 67 #[sv, .int .i64 v] w fun e w' => e = .returned (.tuple #[.int .i64 (K : Nat), .bool bb]) ∧ ∃ q, w' = w.drewN q) := hsr
  clear hs ha hr hsr
  cases bb
  · go_enter Try.func48, Try.ntmps48
    go_wp2_with (go_at_call 67; refine HSR.out.mono ?_; rintro e w1 ⟨rfl, q, hw1⟩)
    go_end0
    have hv : ¬ v ∈ l := by have := HB.out; simpa using this
    subst hw1
    exact ⟨⟨_, rfl⟩, sv, l, HS.out.drewN q, HA.out, HR.out, fun x => ⟨fun h => ⟨h, fun e => hv (e ▸ h)⟩, fun h => h.1⟩, (SetTurn.refl HS.out _).drewN q, .inl rfl⟩
  · have hv : v ∈ l := by have := HB.out; simpa using this
    have HV : Hid (v ∈ l) := hv
    obtain ⟨hk1, _⟩ := cut_at HA.out hv
    rw [HK.out] at hk1
    have HK1 : Hid (K < l.length) := hk1
    have hkb : K < 80 := by have := asc_small HA.out HR.out; omega
    clear hv hk1
    obtain ⟨l2, HL2⟩ : ∃ l2, Hid (l.take K ++ l.drop (K + 1) = l2) := ⟨_, rfl⟩
    go_enter Try.func48, Try.ntmps48
    go_wp2_with (first | (go_at_call 67; refine HSR.out.mono ?_; rintro e w1 ⟨rfl, q, hw1⟩; have S1 : Hid (SetIn w1 lo g o sv l) := (by rw [hw1]; exact HS.out.drewN q); have T1 : Hid (SetTurn w w1 g o sv.ownBlock sv) := (by rw [hw1]; exact (SetTurn.refl HS.out _).drewN q); have d0 := S1.out.cell; clear hw1 c0) | (go_at_call 70; refine (delete_any lo sv l K w1 S1.out.row HK1.out (asc_small HA.out HR.out)).mono ?_; rintro e w2 ⟨sv2, rfl, hr2, hg2, hat2⟩; rw [HL2.out] at hr2; obtain ⟨⟨e1, e2⟩, hs2⟩ := setIn_put S1.out hg2 hr2 hat2; have S2 : Hid (SetIn (w2.setCell ⟨g, o, none⟩ sv2) lo g o sv2 l2) := hs2; have T2 : Hid (SetTurn w (w2.setCell ⟨g, o, none⟩ sv2) g o sv.ownBlock sv2) := T1.out.step hg2 S1.out.lt S1.out.ne (.inl rfl); have A2 : Hid (sv2.ownBlock = sv.ownBlock ∨ ∀ b, sv2.ownBlock = some b → w.heap.size ≤ b) := (by rcases hat2 with e | e; (exact .inl e); (exact .inr (fun b hb => by rw [e] at hb; cases hb; exact T1.out.size))); clear hs2 hg2 hat2 d0; rcases hr2.shape with ⟨rfl, _⟩ | ⟨g2, cap2, rfl⟩ <;> clear hr2))
    all_goals (go_end0; obtain ⟨o1, o2⟩ := cut_out HA.out HV.out; rw [HK.out, HL2.out] at o1 o2; exact ⟨⟨_, rfl⟩, _, l2, S2.out, o1, fun x hx => HR.out x ((o2 x).1 hx).1, o2, T2.out, A2.out⟩)

theorem In80.add {l : List Int} (h : In80 l) {v : Int} (hv : 0 ≤ v ∧ v < 80) {l2 : List Int} (he : ∀ x, x ∈ l2 ↔ x ∈ l ∨ x = v) : In80 l2 := fun x hx => by
  rcases (he x).1 hx with h1 | h1
  · exact h x h1
  · rw [h1]; exact hv

def AddUp (w wr : World) (lo g o : Nat) (sv : Value) (l m : List Int) (k : Nat) : Prop := SetGrew w lo g o sv l (m.take k) wr
theorem mem_take_next {m : List Int} {k : Nat} (h : k < m.length) (x : Int) : x ∈ m.take (k + 1) ↔ x ∈ m.take k ∨ x = m.getD k 0 := by
  rw [List.take_add_one, List.getElem?_eq_getElem h, List.mem_append, List.getD_eq_getElem?_getD, List.getElem?_eq_getElem h]
  simp

set_option maxRecDepth 100000 in
set_option maxHeartbeats 8000000 in
theorem add_any (lo g o : Nat) (sv av : Value) (l m : List Int) (w : World) (hs : SetIn w lo g o sv l) (ha : Asc l) (hr : In80 l) (hlo : lo ≤ w.heap.size) (hm : IntsAt w av m) (hmr : In80 m) (hav : ∀ b, av.ownBlock = some b → b < w.heap.size ∧ b ≠ g ∧ some b ≠ sv.ownBlock) :
    Calls Try.prog 45 #[.pointer (some ⟨g, o, none⟩), av] w fun e w' => (∃ r, e = .returned r) ∧ SetGrew w lo g o sv l m w' := by
  have HS : Hid (SetIn w lo g o sv l) := hs
  have HA : Hid (Asc l) := ha
  have HR : Hid (In80 l) := hr
  have HMR : Hid (In80 m) := hmr
  have HM : Hid (IntsAt w av m) := hm
  have HAV : Hid (∀ b, av.ownBlock = some b → b < w.heap.size ∧ b ≠ g ∧ some b ≠ sv.ownBlock) := hav
  have HLO : Hid (lo ≤ w.heap.size) := hlo
  obtain ⟨aa, acap, rfl, hn, -⟩ := hm
  obtain ⟨n, HN⟩ : ∃ n, Hid (m.length = n) := ⟨_, rfl⟩
  rw [HN.out] at hn
  clear hs ha hr hmr hav hlo
  have hargs : (#[Value.pointer (some ⟨g, o, none⟩), Value.slice aa m.length acap] : Array Value) = #[.pointer (some ⟨g, o, none⟩), .slice aa n acap] := by rw [HN.out]
  rw [hargs]
  clear hargs
  go_enter Try.func45, Try.ntmps45
  go_wp2_with fail
  go_loopw [10] (fun i wr => ∃ k : Nat, k ≤ n ∧ i = .int .i64 k ∧ AddUp w wr lo g o sv l m k) (fun i _ => n - (intOf i).toNat)
  case atStart => exact ⟨0, Nat.zero_le _, rfl, sv, l, HS.out, HA.out, HR.out, by simp, SetTurn.refl HS.out _, .inl rfl⟩
  case round =>
    obtain ⟨wq, hwq⟩ : ∃ x, x = wr := ⟨_, rfl⟩
    subst hwq
    obtain ⟨k, hk, rfl, svk, lk, hsk, hak, hrk, hmk, htk, howk⟩ := hrel
    have SK : Hid (SetIn wq lo g o svk lk) := hsk
    have AK : Hid (Asc lk) := hak
    have RK : Hid (In80 lk) := hrk
    have MK : Hid (∀ x, x ∈ lk ↔ x ∈ l ∨ x ∈ m.take k) := hmk
    have TK : Hid (SetTurn w wq g o sv.ownBlock svk) := htk
    have OK : Hid (svk.ownBlock = sv.ownBlock ∨ ∀ b, svk.ownBlock = some b → w.heap.size ≤ b) := howk
    clear hsk hak hrk hmk htk howk
    by_cases hlt : (k : Int) < (n : Int)
    · have hkm : k < m.length := by have := HN.out; omega
      obtain ⟨x, HX⟩ : ∃ x, Hid (m.getD k 0 = x) := ⟨_, rfl⟩
      obtain ⟨ab, aoff, rfl, a0⟩ : ∃ b off, aa = some ⟨b, off, none⟩ ∧ wq.cell? ⟨b, off + k, none⟩ = some (.int .i64 x) := by
        obtain ⟨a', cap', e, _, hc⟩ := HM.out
        obtain ⟨b, off, rfl, hc2⟩ := hc (by omega)
        simp at e
        obtain ⟨e, _⟩ := e
        refine ⟨b, off, e, ?_⟩
        obtain ⟨h1, h2, h3⟩ := HAV.out b (by rw [e]; rfl)
        rw [World.cell?_of_block (w := w) (w' := wq) (a := ⟨b, off + k, none⟩) (TK.out.block b h1 h2 h3), hc2 k hkm, HX.out]
      have hxr : 0 ≤ x ∧ x < 80 := HMR.out x (by rw [← HX.out, List.getD_eq_getElem?_getD, List.getElem?_eq_getElem hkm]; exact List.getElem_mem hkm)
      have HXR : Hid (0 ≤ x ∧ x < 80) := hxr
      have HKM : Hid (k < m.length) := hkm
      clear hkm hxr
      have c0 := SK.out.cell
      obtain ⟨bb, HB⟩ : ∃ b, Hid (lk.contains x = b) := ⟨_, rfl⟩
      obtain ⟨K, HK⟩ : ∃ K, Hid (cutOf lk x = K) := ⟨_, rfl⟩
      have hsr := search_any lo svk lk x wq SK.out.row AK.out (asc_small AK.out RK.out)
      rw [HB.out, HK.out] at hsr
      have HSR : Hid (Calls Try.prog 67 #[svk, .int .i64 x] wq fun e w' => e = .returned (.tuple #[.int .i64 (K : Nat), .bool bb]) ∧ ∃ q, w' = wq.drewN q) := hsr
      clear hsr
      cases bb
      · have hv : ¬ x ∈ lk := by have := HB.out; simpa using this
        have HV : Hid (¬ x ∈ lk) := hv
        have hkl : K ≤ lk.length := by rw [← HK.out]; exact cutOf_le _ _
        have HKL : Hid (K ≤ lk.length) := hkl
        have hkb : K ≤ 80 := by have := asc_small AK.out RK.out; omega
        clear hv hkl
        obtain ⟨l2, HL2⟩ : ∃ l2, Hid (lk.take K ++ x :: lk.drop K = l2) := ⟨_, rfl⟩
        go_wp2_with (first | (go_at_call 67; refine HSR.out.mono ?_; rintro e w1 ⟨rfl, q, hw1⟩; have S1 : Hid (SetIn w1 lo g o svk lk) := (by rw [hw1]; exact SK.out.drewN q); have T1 : Hid (SetTurn w w1 g o sv.ownBlock svk) := (by rw [hw1]; exact TK.out.drewN q); have d0 := S1.out.cell; clear hw1 c0) | (go_at_call 68; obtain ⟨w3, hw3⟩ : ∃ w3, w1.alloc (.cells #[.int .i64 x] 3) = w3 := ⟨_, rfl⟩; have hvb : w3.heap[w1.heap.size]? = some (.cells #[.int .i64 x] 3 (0, 0)) := (by rw [← hw3]; exact World.alloc_heap_new w1 _); have B3 : Hid (Below w1.heap.size w1 w3) := (by rw [← hw3]; exact Bel.alloc _ _); have S3 : Hid (SetIn w3 lo g o svk lk) := S1.out.keep B3.out; have T3 : Hid (SetTurn w w3 g o sv.ownBlock svk) := T1.out.keep B3.out S1.out; rw [hw3]; refine (insert_any lo svk lk K x w1.heap.size w3 S3.out.row HKL.out (asc_small AK.out RK.out) (by have := HLO.out; have := T3.out.size; omega) hvb (fun e => by have := S1.out.row.lt _ e; omega)).mono ?_; rintro e w2 ⟨sv2, rfl, hr2, hg2, hat2⟩; rw [HL2.out] at hr2; obtain ⟨⟨e1, e2⟩, hs2⟩ := setIn_put S3.out hg2 hr2 hat2; have S2 : Hid (SetIn (w2.setCell ⟨g, o, none⟩ sv2) lo g o sv2 l2) := hs2; have T2 : Hid (SetTurn w (w2.setCell ⟨g, o, none⟩ sv2) g o sv.ownBlock sv2) := T3.out.step hg2 S3.out.lt S3.out.ne OK.out; have A2 : Hid (sv2.ownBlock = sv.ownBlock ∨ ∀ b, sv2.ownBlock = some b → w.heap.size ≤ b) := (by rcases hat2 with e | e; (rw [e]; exact OK.out); (exact .inr (fun b hb => by rw [e] at hb; cases hb; exact T3.out.size))); clear hs2 hg2 hat2 d0 hvb hw3; rcases hr2.shape with ⟨rfl, _⟩ | ⟨g2, cap2, rfl⟩ <;> clear hr2))
        all_goals (
          go_roundw
          case rel =>
            have o1 := put_asc AK.out HV.out
            have o2 := put_mem lk K x
            rw [HK.out, HL2.out] at o1
            rw [HL2.out] at o2
            exact ⟨k + 1, by omega, by simp, _, l2, S2.out, o1, RK.out.add HXR.out o2, fun y => by rw [o2 y, MK.out y, mem_take_next HKM.out, HX.out]; exact or_assoc, T2.out, A2.out⟩
          case measure => simp [intOf]; omega)
      · have hv : x ∈ lk := by have := HB.out; simpa using this
        have HV : Hid (x ∈ lk) := hv
        clear hv
        go_wp2_with (go_at_call 67; refine HSR.out.mono ?_; rintro e w1 ⟨rfl, q, hw1⟩; have S1 : Hid (SetIn w1 lo g o svk lk) := (by rw [hw1]; exact SK.out.drewN q); have T1 : Hid (SetTurn w w1 g o sv.ownBlock svk) := (by rw [hw1]; exact TK.out.drewN q); clear hw1 c0)
        go_roundw
        case rel =>
          refine ⟨k + 1, by omega, by simp, _, lk, S1.out, AK.out, RK.out, fun y => ?_, T1.out, OK.out⟩
          rw [mem_take_next HKM.out, HX.out, ← or_assoc, ← MK.out y]
          exact ⟨.inl, fun h => h.elim id (fun e => e ▸ HV.out)⟩
        case measure => simp [intOf]; omega
    · obtain rfl : k = n := by omega
      go_wp2_with fail
      go_end0
      refine ⟨⟨_, rfl⟩, svk, lk, SK.out, AK.out, RK.out, fun y => ?_, TK.out, OK.out⟩
      rw [MK.out y, List.take_of_length_le (by have := HN.out; omega)]
end Go.Proofs.Ytjfogpbhacadbaa
