/- What is needed at the end of a block, and ahead of its end: the model's l11Out and l11End. -/
import Derived.Test.YtjfogpbhacadbaaLSpBK
import Derived.Test.YtjfogpbhacadbaaKGraph
import Derived.Test.YtjfogpbhacadbaaKPlain
namespace Go.Proofs.Ytjfogpbhacadbaa
open Go.ChangeShapes Go.WideShapes Go.ChangeAt Go.RowKit
set_option linter.unusedVariables false

/-- Rows of flags, one for each block. -/
def MatAt (w : World) (g n V : Nat) (ls : Nat → List Int) : Prop := ∀ i, i < n → ∃ ua uc, w.cell? ⟨g, i, none⟩ = some (.slice ua V uc) ∧ BoolsAt w (.slice ua V uc) (bitsOf V (ls i))
theorem MatAt.keep {w w' : World} {g n V : Nat} {ls : Nat → List Int} (h : MatAt w g n V ls) (hb : Below w.heap.size w w') : MatAt w' g n V ls := fun i hi => by
  obtain ⟨ua, uc, h1, h2⟩ := h i hi
  exact ⟨ua, uc, Bel.keeps hb h1, h2.keep hb⟩
theorem BoolsAt.cell {w : World} {ua : Option Addr} {V uc : Nat} {l : List Bool} (h : BoolsAt w (.slice ua V uc) l) (hl : l.length = V) {j : Nat} (hj : j < V) : ∃ b off, ua = some ⟨b, off, none⟩ ∧ w.cell? ⟨b, off + j, none⟩ = some (.bool (l.getD j false)) := by
  obtain ⟨a, cap, e, hm, hc⟩ := h
  obtain ⟨b, off, rfl, hd⟩ := hc (by omega)
  simp at e
  exact ⟨b, off, e.1, hd j (by omega)⟩
/-- Nothing that was there has turned but row g. -/
structure RowOnly (w0 : World) (g : Nat) (w : World) : Prop where
  size : w0.heap.size ≤ w.heap.size
  same : ∀ j, j < w0.heap.size → j ≠ g → w.heap[j]? = w0.heap[j]?
theorem RowOnly.refl (w : World) (g : Nat) : RowOnly w g w := ⟨Nat.le_refl _, fun _ _ _ => rfl⟩
theorem RowOnly.set {w0 w : World} {g : Nat} (h : RowOnly w0 g w) (z : Nat) (v : Value) : RowOnly w0 g (w.setCell ⟨g, z, none⟩ v) := by
  have hs : (w.setCell ⟨g, z, none⟩ v).heap.size = w.heap.size := by show (w.heap.modify _ _).size = _; simp
  exact ⟨by rw [hs]; exact h.size, fun j hj hne => (Below.heap_setCell _ _ _ j (by intro e; exact hne e)).trans (h.same j hj hne)⟩
theorem RowOnly.cell {w0 w : World} {g : Nat} (h : RowOnly w0 g w) {p : Addr} {v : Value} (hp : p.block ≠ g) (hc : w0.cell? p = some v) : w.cell? p = some v := (World.cell?_of_block (h.same p.block (World.block_lt_of_cell? w0 p hc) hp)).trans hc

def flatUp (ls : Nat → List Int) (l : List Int) : List Int := l.flatMap (fun s => ls s.toNat)
theorem flatUp_next {ls : Nat → List Int} {ss : List Int} {k : Nat} (h : k < ss.length) : flatUp ls (ss.take (k + 1)) = flatUp ls (ss.take k) ++ ls (ss.getD k 0).toNat := by
  unfold flatUp
  rw [List.take_add_one, List.getElem?_eq_getElem h, List.getD_eq_getElem?_getD, List.getElem?_eq_getElem h, Option.toList_some, List.flatMap_append, List.flatMap_cons, List.flatMap_nil, List.append_nil]
  rfl
def OrUp (w1 : World) (lo V g cap : Nat) (acc l : List Int) (v : Nat) (wr : World) : Prop := OwnBools wr lo (.slice (some ⟨g, 0, none⟩) V cap) (bitsOf V (acc ++ l.filter (fun z => decide (z < (v : Int))))) ∧ Below lo w1 wr ∧ RowOnly w1 g wr
theorem OrUp.put {w1 : World} {lo V g cap : Nat} {acc l : List Int} {v : Nat} {wr : World} (h : OrUp w1 lo V g cap acc l v wr) (hlo : lo ≤ g) (hv : v < V) {x : Bool} (hx : x = true ↔ (v : Int) ∈ acc ∨ (v : Int) ∈ l) : OrUp w1 lo V g cap acc l (v + 1) (wr.setCell ⟨g, v, none⟩ (.bool x)) := by
  obtain ⟨h1, h2, h3⟩ := h
  refine ⟨?_, h2.setCell (p := ⟨g, v, none⟩) hlo _, h3.set _ _⟩
  have := h1.setAt hv x
  rw [bits_set (m := acc ++ l.filter (fun z => decide (z < ((v + 1 : Nat) : Int)))) hv (fun j hj => ?_)] at this
  · exact this
  · rw [List.mem_append, List.mem_filter, List.mem_append, List.mem_filter]
    by_cases e : j = v
    · subst e
      rw [if_pos rfl, hx]
      constructor
      · rintro (h | h)
        · exact .inl h
        · exact .inr h.1
      · rintro (h | h)
        · exact .inl h
        · exact .inr ⟨h, by simp; omega⟩
    · rw [if_neg e]
      have : ((j : Int) < (v : Int)) ↔ ((j : Int) < ((v + 1 : Nat) : Int)) := by omega
      simp only [this, decide_eq_true_eq]

set_option maxRecDepth 100000 in
set_option maxHeartbeats 4000000 in
theorem l11Out_any (v : Value) (F : FnD) (b n V : Nat) (mg mc : Nat) (ls : Nat → List Int) (w : World) (hF : FnAt w v F) (hn : F.blocks.length = n) (hV : F.values = (V : Int)) (hV8 : V ≤ 80) (hb : b < n) (hsu : ∀ s ∈ succsN F b, 0 ≤ s ∧ s < n) (hM : MatAt w mg n V ls) :
    Calls Try.prog 60 #[v, .int .i64 b, .slice (some ⟨mg, 0, none⟩) n mc] w fun e w' => GivesBits w V (outF F ls b) e w' := by
  have HF : Hid (FnAt w v F) := hF
  have HN : Hid (F.blocks.length = n) := hn
  obtain ⟨ba, bcap, rfl⟩ := hF.out hn hV
  have HSU : Hid (∀ s ∈ succsN F b, 0 ≤ s ∧ s < n) := hsu
  have HM : Hid (MatAt w mg n V ls) := hM
  have hbI : (b : Int) < (n : Int) := by omega
  clear hF hn hV hsu hM
  obtain ⟨wA, hwA⟩ : ∃ wA, w.alloc (.cells #[.slice ba n bcap, .int .i64 V] 29) = wA := ⟨_, rfl⟩
  have BA : Hid (Below w.heap.size w wA) := by rw [← hwA]; exact Bel.alloc _ _
  have hsA : wA.heap.size = w.heap.size + 1 := by rw [← hwA]; simp
  have a0 : wA.cell? ⟨w.heap.size, 0, none⟩ = some (.slice ba n bcap) := by rw [← hwA]; simp [go_sem]
  have a1 : wA.cell? ⟨w.heap.size, 1, none⟩ = some (.int .i64 V) := by rw [← hwA]; simp [go_sem]
  have hmk := make_bools V (by omega) wA
  obtain ⟨wB, hwB⟩ : ∃ wB, wA.alloc (.cells (madeCells #[.bool false] V) 4) = wB := ⟨_, rfl⟩
  rw [hwB] at hmk
  have BB : Hid (Below wA.heap.size wA wB) := by rw [← hwB]; exact Bel.alloc _ _
  have hsB : wB.heap.size = w.heap.size + 2 := by rw [← hwB]; simp; omega
  have OB : Hid (OwnBools wB (w.heap.size + 1) (.slice (some ⟨wA.heap.size, 0, none⟩) V V) (bitsOf V [])) := by rw [← hwB]; exact ownBools_made V _ (by omega) wA (by omega)
  have FB : Hid (FnAt wB (.agg #[.slice ba n bcap, .int .i64 V]) F) := (HF.out.later BA.out).later BB.out
  have b0 := Bel.keeps BB.out a0
  have b1 := Bel.keeps BB.out a1
  rw [hsA] at hmk
  rw [hsA] at OB
  obtain ⟨ss, HSS⟩ : ∃ z, Hid (succsN F b = z) := ⟨_, rfl⟩
  obtain ⟨sn, HSN⟩ : ∃ z, Hid (ss.length = z) := ⟨_, rfl⟩
  go_enter Try.func60, Try.ntmps60
  go_wp2_with (first | (go_at_call 78; refine (l3Succs_any _ F b wB FB.out (by rw [HN.out]; exact hb)).mono ?_; rintro e wC ⟨sv, rfl, hO, bC⟩; rw [HSS.out] at hO; have OC : Hid (OwnInts wC wB.heap.size sv ss) := hO; have BC : Hid (Below w.heap.size w wC) := Bel.after BA.out (Bel.after BB.out bC); have OR : Hid (OwnBools wC (w.heap.size + 1) (.slice (some ⟨w.heap.size + 1, 0, none⟩) V V) (bitsOf V [])) := OB.out.keep bC; have d0 := Bel.keeps bC b0; have d1 := Bel.keeps bC b1; have hsC := bC.size; obtain ⟨sa, sc, rfl, hle, _⟩ := hO.at; rw [HSN.out] at hle; rw [HSN.out] at hO ⊢; rw [HSN.out] at OC; clear hO bC))
  have hG1 : ∀ q, q = w.heap.size + 1 → q < wC.heap.size := fun q h => by omega
  go_loopw [9] (fun i wr => ∃ k : Nat, k ≤ sn ∧ i = .int .i64 k ∧ OrUp wC (w.heap.size + 1) V (w.heap.size + 1) V (flatUp ls (ss.take k)) [] 0 wr) (fun i _ => sn - (intOf i).toNat)
  case atStart => exact ⟨0, Nat.zero_le _, rfl, by simpa [flatUp] using OR.out, Below.refl _ _, RowOnly.refl _ _⟩
  case round =>
    obtain ⟨wq, hwq⟩ : ∃ x, x = wr := ⟨_, rfl⟩
    subst hwq
    obtain ⟨k, hk, rfl, hup⟩ := hrel
    have UP : Hid (OrUp wC (w.heap.size + 1) V (w.heap.size + 1) V (flatUp ls (ss.take k)) [] 0 wq) := hup
    clear hup
    by_cases hlt : (k : Int) < (sn : Int)
    · have hks : k < ss.length := by have := HSN.out; omega
      obtain ⟨s, HS, hs⟩ : ∃ s : Nat, Hid (ss.getD k 0 = (s : Int)) ∧ s < n := by
        have h9 := HSU.out (ss.getD k 0) (by rw [HSS.out, List.getD_eq_getElem?_getD, List.getElem?_eq_getElem hks]; exact List.getElem_mem hks)
        have h8 : ss.getD k 0 = ((ss.getD k 0).toNat : Int) := by omega
        exact ⟨(ss.getD k 0).toNat, h8, by omega⟩
      have HKS : Hid (k < ss.length) := hks
      have hlt2 : k < sn := by omega
      have HLT : Hid (k < sn) := hlt2
      clear hlt2
      obtain ⟨ua, uc, hm1, hm2⟩ := (HM.out.keep BC.out) s hs
      have HM2 : Hid (BoolsAt wC (.slice ua V uc) (bitsOf V (ls s))) := hm2
      have hIA := OC.out.at
      obtain ⟨nb, noff, hsa, hns⟩ : ∃ nb noff, sa = some ⟨nb, noff, none⟩ ∧ wC.cell? ⟨nb, noff + k, none⟩ = some (.int .i64 s) := by
        obtain ⟨a', cap', e, _, hc⟩ := hIA
        obtain ⟨nb, noff, rfl, hc2⟩ := hc (by omega)
        simp at e
        exact ⟨nb, noff, e.1, by rw [hc2 k hks, HS.out]⟩
      subst hsa
      have hnb : nb ≠ w.heap.size + 1 := by have := (OC.out.lt nb rfl).1; omega
      have hmg : mg ≠ w.heap.size + 1 := by
        obtain ⟨_, _, h9, _⟩ := HM.out s hs
        have := World.block_lt_of_cell? w _ h9
        dsimp only at this
        omega
      have hnsI : (s : Int) < (n : Int) := by omega
      clear hks hm2 hIA
      go_wp2_with fail
      go_loopw [10] (fun i wr => ∃ v : Nat, v ≤ V ∧ i = .int .i64 v ∧ OrUp wC (w.heap.size + 1) V (w.heap.size + 1) V (flatUp ls (ss.take k)) (ls s) v wr) (fun i _ => V - (intOf i).toNat)
      case atStart =>
        refine ⟨0, Nat.zero_le _, rfl, ?_, UP.out.2⟩
        have h9 := UP.out.1
        rw [bits_congr (m := flatUp ls (ss.take k) ++ (ls s).filter (fun z => decide (z < ((0 : Nat) : Int)))) (fun j hj => ?_)] at h9
        · exact h9
        · simp
          intro _ h8
          omega
      case round =>
        obtain ⟨wp, hwp⟩ : ∃ x, x = wr := ⟨_, rfl⟩
        subst hwp
        obtain ⟨z, hz, rfl, hup2⟩ := hrel
        have UP2 : Hid (OrUp wC (w.heap.size + 1) V (w.heap.size + 1) V (flatUp ls (ss.take k)) (ls s) z wp) := hup2
        have g1 := hup2.2.2.cell (p := ⟨w.heap.size, 1, none⟩) (by simp) d1
        by_cases hzl : (z : Int) < (V : Int)
        · have hzV : z < V := by omega
          obtain ⟨ub, uoff, hua, hub⟩ := HM2.out.cell (bits_len _ _) hzV
          rw [bits_getD _ hzV] at hub
          obtain ⟨t2, HT2⟩ : ∃ t, Hid (decide ((z : Int) ∈ ls s) = t) := ⟨_, rfl⟩
          rw [HT2.out] at hub
          have hubn : ub ≠ w.heap.size + 1 := by
            obtain ⟨_, _, h8, h9⟩ := HM.out s hs
            obtain ⟨ua2, uc2, h7, _⟩ := (HM.out.keep BC.out) s hs
            have h6 := Bel.keeps BC.out h8
            rw [hm1] at h6
            cases h6
            obtain ⟨b5, o5, e5, c5⟩ := h9.cell (bits_len _ _) hzV
            rw [hua] at e5
            cases e5
            have := World.block_lt_of_cell? w _ c5
            dsimp only at this
            omega
          have g2 := hup2.2.2.cell (p := ⟨nb, noff + k, none⟩) hnb hns
          have g3 := hup2.2.2.cell (p := ⟨mg, s, none⟩) hmg hm1
          have g4 := hup2.2.2.cell (p := ⟨ub, uoff + z, none⟩) hubn hub
          obtain ⟨_, _, _, _, hcell, hfz⟩ := hup2.1.cells
          have c1 := hcell z hzV
          have c2 := hfz z
          rw [bits_getD _ hzV] at c1
          obtain ⟨t1, HT1⟩ : ∃ t, Hid (decide ((z : Int) ∈ flatUp ls (ss.take k) ++ (ls s).filter (fun y => decide (y < (z : Int)))) = t) := ⟨_, rfl⟩
          rw [HT1.out] at c1
          subst hua
          have hT : (t1 || t2) = true ↔ (z : Int) ∈ flatUp ls (ss.take k) ∨ (z : Int) ∈ ls s := by
            rw [← HT1.out, ← HT2.out]
            simp
          have HTT : Hid ((t1 || t2) = true ↔ (z : Int) ∈ flatUp ls (ss.take k) ∨ (z : Int) ∈ ls s) := hT
          clear hup2 hcell hfz hT
          cases t1
          · go_wp2_with fail
            go_roundw
            case rel => exact ⟨z + 1, by omega, by simp, UP2.out.put (by omega) hzV (by have := HTT.out; simpa using this)⟩
            case measure => simp [intOf]; omega
          · go_wp2_with fail
            go_roundw
            case rel => exact ⟨z + 1, by omega, by simp, UP2.out.put (by omega) hzV (by have := HTT.out; simpa using this)⟩
            case measure => simp [intOf]; omega
        · obtain rfl : z = V := by omega
          clear hup2
          go_wp2_with fail
          go_roundw
          case rel =>
            refine ⟨k + 1, by omega, by simp, ?_, UP2.out.2⟩
            have h9 := UP2.out.1
            rw [bits_congr (m := flatUp ls (ss.take (k + 1)) ++ List.filter (fun z => decide (z < ((0 : Nat) : Int))) []) (fun j hj => ?_)] at h9
            · exact h9
            · rw [flatUp_next HKS.out, HS.out, List.filter_nil, List.append_nil, List.mem_append, List.mem_append, List.mem_filter, Int.toNat_natCast]
              constructor
              · rintro (h | h)
                · exact .inl h
                · exact .inr h.1
              · rintro (h | h)
                · exact .inl h
                · exact .inr ⟨h, by simp; omega⟩
          case measure => have := HLT.out; simp [intOf]; omega
    · obtain rfl : k = sn := by omega
      go_wp2_with fail
      go_ret
      have h9 := UP.out.1
      rw [List.take_of_length_le (by have := HSN.out; omega), bits_congr (m := outF F ls b) (fun j hj => ?_)] at h9
      · exact ⟨w.heap.size + 1, V, rfl, h9.low (by omega), BC.out.trans (UP.out.2.1.mono (by omega))⟩
      · rw [← HSS.out]
        unfold outF flatUp
        rw [norm_mem, List.filter_nil, List.append_nil]
        exact ⟨fun h => ⟨h, by omega, by omega⟩, fun h => h.1⟩
end Go.Proofs.Ytjfogpbhacadbaa
