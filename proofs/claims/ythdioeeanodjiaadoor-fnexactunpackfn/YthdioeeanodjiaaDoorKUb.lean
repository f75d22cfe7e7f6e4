/- The program's reader: phis, each list in a block of its own. The program's reader: phis, walked. A block is put into a program in memory each of whose lists has a block of its own. The program's reader: a whole program. -/
import Derived.Test.YthdioeeanodjiaaDoorKUa
import Derived.Test.YthdioeeanodjiaaDoorKSpU
import Derived.Test.YthdioeeanodjiaaDoorKLa
namespace Go.Proofs.YthdioeeanodjiaaDoor
open Go.ChangeShapes Go.WideShapes Go.ChangeAt Go.RowKit
set_option linter.unusedVariables false

/-- Whose the new blocks are: from lo on, the phis of block i alone. -/
def OwnP (own : OwnF) (i lo : Nat) (w : World) : Prop := ∀ b, (own b).1 ≤ 3 → lo ≤ b ∧ b < w.heap.size ∧ (∀ j, w.frozen? ⟨b, j, none⟩ = false) ∧ (own b = (1, i, 0) ∨ ∃ j, own b = (3, i, j))
theorem arms_at {S : Nat → Prop} {w : World} {g : Nat} {L : List ArmD} (h : RowV 2 w g (L.map armC)) (hS : S g) (hm : L.length ≤ 1000) : ListO S 2 (fun _ => ArmAt) w (.slice (some ⟨g, 0, none⟩) L.length L.length) L :=
  ⟨_, _, rfl, by omega, fun _ => ⟨g, 0, rfl, hS, fun i x hx => by
    have hr := (h i (armC x) (by rw [List.getElem?_map, hx]; rfl)).2
    rw [Nat.zero_add]
    exact ⟨hr 0 _ rfl, hr 1 _ rfl⟩⟩⟩
theorem list_at {S : Nat → Prop} {w : World} {g : Nat} {L : List InsD} (h : RowV 5 w g (L.map insC)) (hS : S g) (hm : L.length ≤ 1000) : ListO S 5 (fun _ => InsAt) w (.slice (some ⟨g, 0, none⟩) L.length L.length) L :=
  ⟨_, _, rfl, by omega, fun _ => ⟨g, 0, rfl, hS, fun i x hx => by
    have hr := (h i (insC x) (by rw [List.getElem?_map, hx]; rfl)).2
    rw [Nat.zero_add]
    exact ⟨hr 0 _ rfl, hr 1 _ rfl, hr 2 _ rfl, hr 3 _ rfl, hr 4 _ rfl⟩⟩⟩
/-- Phis in memory, each list in a block of its own. -/
def PhisO (own : OwnF) (i : Nat) (w : World) (v : Value) (l : List PhiD) : Prop := ListO (fun g => own g = (1, i, 0)) 2 (PhiO own i) w v l
theorem phi_cells {own : OwnF} {i : Nat} {w : World} {g n k : Nat} {cur : List PhiD} {x : PhiD} (h : PhisO own i w (.slice (some ⟨g, 0, none⟩) n n) cur) (hx : cur[k]? = some x) : own g = (1, i, 0) ∧ PhiO own i k w g (k * 2) x := by
  obtain ⟨a, cap, e, hm, hc⟩ := h
  obtain ⟨b, off, e2, hb, hd⟩ := hc (by have := (List.getElem?_eq_some_iff.1 hx).1; omega)
  simp at e
  obtain ⟨e3, _⟩ := e
  rw [e2] at e3
  simp at e3
  obtain ⟨rfl, rfl⟩ := e3
  have := hd k x hx
  rw [Nat.zero_add] at this
  exact ⟨hb, this⟩
theorem PhisO.put {own : OwnF} {i lo AX : Nat} {w w4 : World} {g n k ga : Nat} {cur : List PhiD} (h : PhisO own i w (.slice (some ⟨g, 0, none⟩) n n) cur) (hg : own g = (1, i, 0)) (hin : OwnP own i lo w) (hF : FrB AX w w4) (hAX : AX < lo) (x : PhiD) (hx : x.arms.length ≤ 1000) (hga : w.heap.size ≤ ga) (hgs : ga < w4.heap.size) (hz : ∀ j, w4.frozen? ⟨ga, j, none⟩ = false) (hV : RowV 2 w4 ga (x.arms.map armC)) (hc : cur.length = n) (hk : k < n) :
    PhisO (fun b => if b = ga then (3, i, k) else own b) i (w4.setCells g (k * 2) [.int .i64 x.d, .slice (some ⟨ga, 0, none⟩) x.arms.length x.arms.length]) (.slice (some ⟨g, 0, none⟩) n n) (cur.set k x) ∧ OwnP (fun b => if b = ga then (3, i, k) else own b) i lo (w4.setCells g (k * 2) [.int .i64 x.d, .slice (some ⟨ga, 0, none⟩) x.arms.length x.arms.length]) := by
  obtain ⟨g1, g2, g3, _⟩ := hin g (by rw [hg]; simp)
  have hgga : g ≠ ga := by omega
  have hgx : g ≠ AX := by omega
  have e4 : ∀ b, b < w.heap.size → lo ≤ b → w4.heap[b]? = w.heap[b]? := fun b hb hl => hF.block b hb (by omega)
  have hsz := size_setCells g [.int .i64 x.d, .slice (some ⟨ga, 0, none⟩) x.arms.length x.arms.length] (k * 2) w4
  have hother : ∀ b, b ≠ g → (w4.setCells g (k * 2) [.int .i64 x.d, .slice (some ⟨ga, 0, none⟩) x.arms.length x.arms.length]).heap[b]? = w4.heap[b]? := fun b hb => heap_setCells g hb _ _ _
  have hfz := frozen_setCells g [.int .i64 x.d, .slice (some ⟨ga, 0, none⟩) x.arms.length x.arms.length] (k * 2) w4
  have hthere : w4.there g (k * 2) 2 := fun j hj => by
    obtain ⟨y, hy⟩ : ∃ y, cur[k]? = some y := ⟨_, List.getElem?_eq_getElem (by omega)⟩
    obtain ⟨_, p0, av, p1, _⟩ := phi_cells h hy
    have hf : w4.frozen? ⟨g, k * 2 + j, none⟩ = false := (frozen_same (e4 g g2 g1) _).trans (g3 _)
    have h2 : j = 0 ∨ j = 1 := by omega
    rcases h2 with rfl | rfl
    · exact ⟨by rw [Nat.add_zero, cell_same (e4 g g2 g1), p0]; rfl, hf⟩
    · exact ⟨by rw [cell_same (e4 g g2 g1), p1]; rfl, hf⟩
  have hat := World.rangeAt_setCells_same w4 g (k * 2) [.int .i64 x.d, .slice (some ⟨ga, 0, none⟩) x.arms.length x.arms.length] hthere
  generalize hw9 : w4.setCells g (k * 2) [.int .i64 x.d, .slice (some ⟨ga, 0, none⟩) x.arms.length x.arms.length] = w9 at *
  have hnew : (fun b => if b = ga then (3, i, k) else own b) g = (1, i, 0) := by simp [hgga, hg]
  refine ⟨?_, fun b hb => ?_⟩
  · obtain ⟨a, cap, e, hm, hd⟩ := h
    refine ⟨a, cap, by rw [List.length_set]; exact e, by rw [List.length_set]; exact hm, fun hp => ?_⟩
    rw [List.length_set] at hp
    obtain ⟨b, off, e2, hb, hel⟩ := hd hp
    simp at e
    have e3 := e.1
    rw [e2] at e3
    simp at e3
    obtain ⟨rfl, rfl⟩ := e3
    refine ⟨g, 0, e2, hnew, fun j y hy => ?_⟩
    by_cases ej : j = k
    · subst ej
      rw [List.getElem?_set_self (by omega)] at hy
      cases hy
      rw [Nat.zero_add]
      refine ⟨hat 0 _ rfl, _, hat 1 _ rfl, arms_at (hV.same (hother ga (by omega))) (by simp) hx⟩
    · rw [List.getElem?_set_ne (by omega)] at hy
      obtain ⟨p0, av, p1, p2⟩ := hel j y hy
      rw [Nat.zero_add] at p0 p1 ⊢
      have hc9 : ∀ o, (o < k * 2 ∨ k * 2 + 2 ≤ o) → w9.cell? ⟨g, o, none⟩ = w.cell? ⟨g, o, none⟩ := fun o ho => by
        rw [← cell_same (e4 g g2 g1) o, ← hw9, World.cell?_setCells_out g _ _ _ ⟨g, o, none⟩ (fun _ _ => by simpa using ho)]
      refine ⟨(hc9 _ (by omega)).trans p0, av, (hc9 _ (by omega)).trans p1, p2.imp (fun b hb => ?_) (fun m b o z hb _ hz => ?_)⟩
      · have hne : b ≠ ga := fun e => by
          subst e
          have := (hin b (by rw [hb]; simp)).2.1
          omega
        simp [hne, hb]
      · obtain ⟨b1, b2, _⟩ := hin b (by rw [hb]; simp)
        refine hz.same ((hother b (fun e => ?_)).trans (e4 b b2 b1))
        rw [e, hg] at hb
        simp at hb
  · have hs := hF.size
    by_cases e : b = ga
    · subst e
      exact ⟨by omega, by omega, fun j => (hfz _).trans (hz j), .inr ⟨k, by simp⟩⟩
    · have e9 : (fun b => if b = ga then (3, i, k) else own b) b = own b := by simp [e]
      rw [e9] at hb
      obtain ⟨b1, b2, b3, b4⟩ := hin b hb
      refine ⟨b1, by omega, fun j => (hfz _).trans ((frozen_same (e4 b b2 b1) j).trans (b3 j)), ?_⟩
      rw [e9]
      exact b4
end Go.Proofs.YthdioeeanodjiaaDoor

namespace Go.Proofs.YthdioeeanodjiaaDoor
open Go.ChangeShapes Go.WideShapes Go.ChangeAt Go.RowKit
set_option linter.unusedVariables false
set_option linter.unusedSimpArgs false

def phiLim (x : PhiD) : Prop := x.arms.length ≤ 16
/-- Phis were read. -/
def GivesPh (i : Nat) (w : World) (BX AX : Nat) (v : Value) (l : List UInt8) (p : Nat) (e : Ending) (w' : World) : Prop :=
  ∃ (L : List PhiD) (g p' : Nat) (own : OwnF), e = .returned (.slice (some ⟨g, 0, none⟩) L.length L.length) ∧ L.length ≤ 24 ∧ (∀ x ∈ L, phiLim x) ∧ PhisO own i w' (.slice (some ⟨g, 0, none⟩) L.length L.length) L ∧ OwnP own i w.heap.size w' ∧ RdI w' BX AX v l p' ∧ FrB AX w w' ∧ Got l p true p' true (fun L : List PhiD => (L.length : Int) :: L.flatMap phiN) (fun L => L.length ≤ 24 ∧ ∀ x ∈ L, phiLim x) L
theorem phis_new {i n g : Nat} {w : World} (hn : n ≤ 1000) (hV : RowV 2 w g (List.replicate n [.int .i64 0, .slice none 0 0])) : PhisO (fun b => if b = g then (1, i, 0) else (9, 0, 0)) i w (.slice (some ⟨g, 0, none⟩) n n) (List.replicate n ⟨0, []⟩) :=
  ⟨_, n, by rw [List.length_replicate], by rw [List.length_replicate]; omega, fun _ => ⟨g, 0, rfl, by simp, fun j y hy => by
    obtain ⟨hj, e⟩ := List.getElem?_eq_some_iff.1 hy
    rw [List.getElem_replicate] at e
    subst e
    rw [List.length_replicate] at hj
    have hr := (hV j [.int .i64 0, .slice none 0 0] (by rw [List.getElem?_replicate, if_pos hj])).2
    rw [Nat.zero_add]
    exact ⟨hr 0 _ rfl, .slice none 0 0, hr 1 _ rfl, ListO.nil _ _⟩⟩⟩

set_option maxHeartbeats 8000000 in
theorem phis_any (i : Nat) {w : World} {BX AX : Nat} {v : Value} {l : List UInt8} {p : Nat} (h : RdI w BX AX v l p) :
    Calls Tryd.prog 50 #[clo BX AX] w fun e w' => GivesPh i w BX AX v l p e w' := by
  have HR0 : Hid (RdI w BX AX v l p) := h
  clear h
  go_enter Tryd.func50, Tryd.ntmps50
  go_wp2_with fail
  refine (count_any 24 (by omega) HR0.out).mono ?_
  rintro e w1 ⟨n, p1, rfl, hn, hR, hF, hS, hO⟩
  have hmk : (Instr.makeSlice 41 (.int .i64 (n : Int)) (.int .i64 (n : Int))).run Tryd.prog w1 = .ok (.slice (some ⟨w1.heap.size, 0, none⟩) n n) (w1.alloc (.cells (madeCells #[.int .i64 0, .slice none 0 0] (n * 2)) 61)) := make_rows 41 61 (.agg #[.int .i64 0, .slice none 0 0]) 2 32 Tryd.underlying41 (by kernel_rfl) n (by omega) (by omega) w1
  have HRm : Hid (RdI (w1.alloc (.cells (madeCells #[.int .i64 0, .slice none 0 0] (n * 2)) 61)) BX AX v l p1) := hR.alloc _
  have HFm : Hid (FrB AX w (w1.alloc (.cells (madeCells #[.int .i64 0, .slice none 0 0] (n * 2)) 61))) := hF.trans (FrB.ofBelow (Bel.alloc _ _))
  have HV : Hid (PhisO (fun b => if b = w1.heap.size then (1, i, 0) else (9, 0, 0)) i (w1.alloc (.cells (madeCells #[.int .i64 0, .slice none 0 0] (n * 2)) 61)) (.slice (some ⟨w1.heap.size, 0, none⟩) n n) (List.replicate n ⟨0, []⟩)) := phis_new (by omega) (RowV.made w1 _ 2 n _ rfl (by omega))
  have HP : Hid (OwnP (fun b => if b = w1.heap.size then (1, i, 0) else (9, 0, 0)) i w.heap.size (w1.alloc (.cells (madeCells #[.int .i64 0, .slice none 0 0] (n * 2)) 61))) := fun b hb => by
    by_cases e : b = w1.heap.size
    · subst e
      exact ⟨hF.size, by simp, froz_new _ _ _, .inl (by simp)⟩
    · simp [e] at hb
  have HG : Hid (AX < w.heap.size ∧ w.heap.size ≤ w1.heap.size) := ⟨HR0.out.lt, hF.size⟩
  have HO : Hid (∀ (y : Nat) ys, (y : Int) ≤ 24 → On l p ((y : Int) :: ys) → n = y ∧ On l p1 ys) := hO
  clear hR hF hS hO
  go_wp2_with fail
  clear hmk
  generalize w1.alloc (.cells (madeCells #[.int .i64 0, .slice none 0 0] (n * 2)) 61) = w2 at HRm HFm HV HP ⊢
  obtain ⟨g, hg⟩ : ∃ g, w1.heap.size = g := ⟨_, rfl⟩
  rw [hg] at HV HP HG ⊢
  clear hg
  go_loopw [10] (fun iv wr => ∃ (k : Nat) (cur : List PhiD) (q : Nat) (own : OwnF), k ≤ n ∧ iv = .int .i64 (k : Int) ∧ cur.length = n ∧ RdI wr BX AX v l q ∧ FrB AX w wr ∧ PhisO own i wr (.slice (some ⟨g, 0, none⟩) n n) cur ∧ own g = (1, i, 0) ∧ OwnP own i w.heap.size wr ∧ (∀ x ∈ cur, phiLim x) ∧ SoFar phiN phiLim 24 l p q n k cur) (fun iv _ => n - (intOf iv).toNat)
  case atStart => exact ⟨0, _, p1, _, Nat.zero_le _, rfl, List.length_replicate, HRm.out, HFm.out, HV.out, by simp, HP.out, fun x hx => by rw [List.eq_of_mem_replicate hx]; exact Nat.zero_le _, SoFar.zero HO.out⟩
  case round =>
    obtain ⟨wq, hwq⟩ : ∃ x, x = wr := ⟨_, rfl⟩
    subst hwq
    obtain ⟨k, cur, q, own, hk, rfl, hc, hR, hF, hV, hog, hP, hL, hS⟩ := hrel
    have HC : Hid (cur.length = n) := hc
    have HRq : Hid (RdI wq BX AX v l q) := hR
    have HFq : Hid (FrB AX w wq) := hF
    have HVq : Hid (PhisO own i wq (.slice (some ⟨g, 0, none⟩) n n) cur) := hV
    have HOG : Hid (own g = (1, i, 0)) := hog
    have HPq : Hid (OwnP own i w.heap.size wq) := hP
    have HLq : Hid (∀ x ∈ cur, phiLim x) := hL
    have HSq : Hid (SoFar phiN phiLim 24 l p q n k cur) := hS
    clear hc hR hF hV hog hP hL hS
    by_cases hlt : (k : Int) < (n : Int)
    · go_wp2_with fail
      refine (next_any HRq.out).mono ?_
      rintro e w3 ⟨x1, q1, rfl, hR, hF, hS, hO⟩
      have HR3 : Hid (RdI w3 BX AX v l q1) := hR
      have HF3 : Hid (FrB AX wq w3) := hF
      have HS3 : Hid (w3.heap.size = wq.heap.size) := hS
      have HO3 : Hid (∀ y ys, On l q (y :: ys) → x1 = y ∧ On l q1 ys) := hO
      clear hR hF hS hO
      go_wp2_with fail
      refine (arms_any HR3.out).mono ?_
      rintro e w4 ⟨L, ga, q2, rfl, hL16, ha1, ha2, haV, haz, hR, hF, hO⟩
      have HR4 : Hid (RdI w4 BX AX v l q2) := hR
      have HF4 : Hid (FrB AX wq w4) := HF3.out.trans hF
      have HO4 : Hid (Got l q1 true q2 true (fun L : List ArmD => (L.length : Int) :: L.flatMap armN1) (fun L => L.length ≤ 16 ∧ ∀ x ∈ L, True) L) := hO
      have HA : Hid (L.length ≤ 16 ∧ wq.heap.size ≤ ga ∧ ga < w4.heap.size ∧ RowV 2 w4 ga (L.map armC) ∧ ∀ j, w4.frozen? ⟨ga, j, none⟩ = false) := ⟨hL16, by rw [← HS3.out]; exact ha1, ha2, haV, haz⟩
      clear hR hF hO hL16 ha1 ha2 haV haz
      obtain ⟨y, hy⟩ : ∃ y, cur[k]? = some y := ⟨_, List.getElem?_eq_getElem (by have := HC.out; omega)⟩
      obtain ⟨_, p0, av, p9, _⟩ := phi_cells HVq.out hy
      obtain ⟨g1, g2, g3, _⟩ := HPq.out g (by rw [HOG.out]; simp)
      have he : w4.heap[g]? = wq.heap[g]? := HF4.out.block g g2 (by have := HG.out.1; omega)
      have hz4 : ∀ j, w4.frozen? ⟨g, j, none⟩ = false := fun j => (frozen_same he j).trans (g3 j)
      have d0 : w4.cell? ⟨g, k * 2, none⟩ = some (.int .i64 y.d) := (cell_same he _).trans p0
      have d1 : w4.cell? ⟨g, k * 2 + 1, none⟩ = some av := (cell_same he _).trans p9
      clear he hy p0 p9 g1 g2 g3
      go_wp2_with fail
      obtain ⟨hR9, hF9⟩ := HR0.out.fill HR4.out (HFq.out.trans HF4.out) (Nat.le_trans HG.out.2 (Nat.le_refl _)) (k * 2) [.int .i64 x1, .slice (some ⟨ga, 0, none⟩) L.length L.length] (Q := g)
      obtain ⟨hV9, hP9⟩ := HVq.out.put (k := k) HOG.out HPq.out HF4.out HG.out.1 ⟨x1, L⟩ (by have := HA.out.1; show L.length ≤ 1000; omega) HA.out.2.1 HA.out.2.2.1 HA.out.2.2.2.2 HA.out.2.2.2.1 HC.out (by omega)
      refine ⟨⟨k + 1, cur.set k ⟨x1, L⟩, q2, _, by omega, by simp, by rw [List.length_set, HC.out], hR9, hF9, hV9, ?_, hP9, fun x hx => ?_, HSq.out.step HC.out (by omega) (fun y0 ys hl _ ho => ?_)⟩, by simp [intOf]; omega⟩
      · have hgn : g ≠ ga := by
          have := HA.out.2.1
          have := (HPq.out g (by rw [HOG.out]; simp)).2.1
          omega
        simp [hgn, HOG.out]
      · rcases List.mem_or_eq_of_mem_set hx with h | h
        · exact HLq.out x h
        · rw [h]; exact HA.out.1
      · have ho1 : On l q (y0.d :: ((y0.arms.length : Int) :: (y0.arms.flatMap armN1 ++ ys))) := by
          have e : phiN y0 ++ ys = y0.d :: ((y0.arms.length : Int) :: (y0.arms.flatMap armN1 ++ ys)) := by simp [phiN, armsN]; rfl
          rw [← e]
          exact ho
        obtain ⟨e1, o1⟩ := HO3.out _ _ ho1
        obtain ⟨e2, _, o2⟩ := HO4.out y0.arms ys ⟨hl, fun _ _ => trivial⟩ rfl o1
        refine ⟨?_, rfl, o2⟩
        cases y0
        simp at e1 e2
        rw [e1, e2]
    · go_wp2_with fail
      go_ret
      obtain rfl : k = n := by omega
      exact ⟨cur, g, q, own, by rw [HC.out]; rfl, by rw [HC.out]; omega, HLq.out, by rw [HC.out]; exact HVq.out, HPq.out, HRq.out, HFq.out, HSq.out.whole HC.out⟩
end Go.Proofs.YthdioeeanodjiaaDoor

namespace Go.Proofs.YthdioeeanodjiaaDoor
open Go.ChangeShapes Go.WideShapes Go.ChangeAt Go.RowKit
set_option linter.unusedVariables false
set_option linter.unusedSimpArgs false

def blockC (pv lv : Value) (t : TermD) : List Value := [pv, lv, .int .i64 t.k, .int .i64 t.a, .int .i64 t.t, .int .i64 t.e]
/-- Whose the blocks are when block k was put. -/
def ownB (own own2 : OwnF) (s gl k : Nat) : OwnF := fun b => if b = gl then (2, k, 0) else if s ≤ b then own2 b else own b
theorem ownBk_low {own own2 : OwnF} {s gl k b : Nat} (h : b < s) (h2 : s ≤ gl) : ownB own own2 s gl k b = own b := by
  unfold ownB
  rw [if_neg (by omega), if_neg (by omega)]
theorem ownBk_mid {own own2 : OwnF} {s gl k b : Nat} (h : s ≤ b) (h2 : b < gl) : ownB own own2 s gl k b = own2 b := by
  unfold ownB
  rw [if_neg (by omega), if_pos h]
theorem ownBk_new {own own2 : OwnF} {s gl k : Nat} : ownB own own2 s gl k gl = (2, k, 0) := by
  unfold ownB
  rw [if_pos rfl]
theorem block_cells {own : OwnF} {lo : Nat} {w : World} {g n k : Nat} {cur : List BlockD} {x : BlockD} (h : FnO lo own w (.slice (some ⟨g, 0, none⟩) n n) cur) (hx : cur[k]? = some x) : BlockO own k w g (k * 6) x := by
  obtain ⟨a, cap, e, hm, hc⟩ := h.rows
  obtain ⟨b, off, e2, hb, hd⟩ := hc (by have := (List.getElem?_eq_some_iff.1 hx).1; omega)
  simp at e
  obtain ⟨e3, _⟩ := e
  rw [e2] at e3
  simp at e3
  obtain ⟨rfl, rfl⟩ := e3
  have := hd k x hx
  rw [Nat.zero_add] at this
  exact this
theorem block_there {own : OwnF} {lo : Nat} {w w5 : World} {g n k : Nat} {cur : List BlockD} (h : FnO lo own w (.slice (some ⟨g, 0, none⟩) n n) cur) (hg : own g = (0, 0, 0)) (he : w5.heap[g]? = w.heap[g]?) (hk : k < cur.length) : w5.there g (k * 6) 6 := fun j hj => by
  obtain ⟨pv, lv, c0, c1, c2, c3, c4, c5, _⟩ := block_cells h (List.getElem?_eq_getElem hk)
  have hf : w5.frozen? ⟨g, k * 6 + j, none⟩ = false := (frozen_same he _).trans (h.thaw g (by rw [hg]; simp) _)
  have h6 : j = 0 ∨ j = 1 ∨ j = 2 ∨ j = 3 ∨ j = 4 ∨ j = 5 := by omega
  rcases h6 with rfl | rfl | rfl | rfl | rfl | rfl
  · exact ⟨by rw [Nat.add_zero, cell_same he, c0]; rfl, hf⟩
  · exact ⟨by rw [cell_same he, c1]; rfl, hf⟩
  · exact ⟨by rw [cell_same he, c2]; rfl, hf⟩
  · exact ⟨by rw [cell_same he, c3]; rfl, hf⟩
  · exact ⟨by rw [cell_same he, c4]; rfl, hf⟩
  · exact ⟨by rw [cell_same he, c5]; rfl, hf⟩
theorem FnO.putB {own own2 : OwnF} {lo AX : Nat} {w w3 w5 : World} {g n k gl : Nat} {cur : List BlockD} (h : FnO lo own w (.slice (some ⟨g, 0, none⟩) n n) cur) (hg : own g = (0, 0, 0)) (hF : FrB AX w w5) (hF3 : FrB AX w3 w5) (hs3 : w.heap.size ≤ w3.heap.size) (hAX : AX < lo) (hlo : lo ≤ w.heap.size) (x : BlockD) (pv : Value)
    (hp : PhisO own2 k w3 pv x.phis) (hP : OwnP own2 k w.heap.size w3) (hgl : w3.heap.size ≤ gl) (hgs : gl < w5.heap.size) (hz : ∀ j, w5.frozen? ⟨gl, j, none⟩ = false) (hV : RowV 5 w5 gl (x.list.map insC)) (hl : x.list.length ≤ 1000) (hc : cur.length = n) (hk : k < n) :
    FnO lo (ownB own own2 w.heap.size gl k) (w5.setCells g (k * 6) (blockC pv (.slice (some ⟨gl, 0, none⟩) x.list.length x.list.length) x.term)) (.slice (some ⟨g, 0, none⟩) n n) (cur.set k x) := by
  have g1 : lo ≤ g := h.low g (by rw [hg]; simp)
  have g2 : g < w.heap.size := h.high g (by rw [hg]; simp)
  have e4 : ∀ b, b < w.heap.size → lo ≤ b → w5.heap[b]? = w.heap[b]? := fun b hb hl => hF.block b hb (by omega)
  have hs5 := hF3.size
  generalize hcs : blockC pv (.slice (some ⟨gl, 0, none⟩) x.list.length x.list.length) x.term = cs
  have h6 : cs.length = 6 := by rw [← hcs]; rfl
  have hat := World.rangeAt_setCells_same w5 g (k * 6) cs (by rw [h6]; exact block_there h hg (e4 g g2 g1) (by omega))
  have hsz := size_setCells g cs (k * 6) w5
  have hother : ∀ b, b ≠ g → (w5.setCells g (k * 6) cs).heap[b]? = w5.heap[b]? := fun b hb => heap_setCells g hb _ _ _
  have hfz := frozen_setCells g cs (k * 6) w5
  have hc9 : ∀ o, (o < k * 6 ∨ k * 6 + 6 ≤ o) → (w5.setCells g (k * 6) cs).cell? ⟨g, o, none⟩ = w.cell? ⟨g, o, none⟩ := fun o ho => by
    rw [← cell_same (e4 g g2 g1) o, World.cell?_setCells_out g _ _ _ ⟨g, o, none⟩ (fun _ _ => by rw [h6]; exact ho)]
  generalize w5.setCells g (k * 6) cs = w9 at *
  have hne : ∀ b, b ≠ g → b < w5.heap.size → w.heap.size ≤ b ∨ lo ≤ b → True := fun _ _ _ _ => trivial
  have hlow : ∀ b c, own b = c → c.1 ≤ 3 → ownB own own2 w.heap.size gl k b = c := fun b c hb hc3 => by
    rw [ownBk_low (h.high b (by rw [hb]; exact hc3)) (by omega), hb]
  have hcell : ∀ b c, own b = c → c.1 ≤ 3 → c ≠ (0, 0, 0) → w9.heap[b]? = w.heap[b]? := fun b c hb hc3 hc0 =>
    (hother b (fun e => hc0 (by rw [← hb, e, hg]))).trans (e4 b (h.high b (by rw [hb]; exact hc3)) (h.low b (by rw [hb]; exact hc3)))
  refine ⟨?_, fun b hb => ?_, fun b hb => ?_, fun b hb j => ?_⟩
  · obtain ⟨a, cap, e, hm, hd⟩ := h.rows
    refine ⟨a, cap, by rw [List.length_set]; exact e, by rw [List.length_set]; exact hm, fun hp0 => ?_⟩
    rw [List.length_set] at hp0
    obtain ⟨b, off, e2, hb, hel⟩ := hd hp0
    simp at e
    have e3 := e.1
    rw [e2] at e3
    simp at e3
    obtain ⟨rfl, rfl⟩ := e3
    refine ⟨g, 0, e2, hlow g _ hg (by simp), fun j y hy => ?_⟩
    rw [Nat.zero_add]
    by_cases ej : j = k
    · subst ej
      rw [List.getElem?_set_self (by omega)] at hy
      cases hy
      rw [← hcs] at hat
      refine ⟨pv, _, hat 0 _ rfl, hat 1 _ rfl, hat 2 _ rfl, hat 3 _ rfl, hat 4 _ rfl, hat 5 _ rfl, ?_, list_at (hV.same (hother gl (by omega))) ownBk_new hl⟩
      have hPb : ∀ b, (own2 b).1 ≤ 3 → ownB own own2 w.heap.size gl j b = own2 b ∧ w9.heap[b]? = w3.heap[b]? := fun b hb => by
        obtain ⟨b1, b2, _⟩ := hP b hb
        exact ⟨ownBk_mid b1 (by omega), (hother b (by omega)).trans (hF3.block b b2 (by omega))⟩
      refine hp.imp (fun b hb => ((hPb b (by rw [hb]; simp)).1).trans hb) (fun m b o z hb _ hz => ?_)
      obtain ⟨h0, av, h1, h2⟩ := hz
      have eb := (hPb b (by rw [hb]; simp)).2
      refine ⟨(cell_same eb _).trans h0, av, (cell_same eb _).trans h1, h2.imp (fun b hb => ((hPb b (by rw [hb]; simp)).1).trans hb) (fun _ b o z hb _ hz => hz.same (hPb b (by rw [hb]; simp)).2)⟩
    · rw [List.getElem?_set_ne (by omega)] at hy
      obtain ⟨pv', lv', c0, c1, c2, c3, c4, c5, hph, hli⟩ := hel j y hy
      rw [Nat.zero_add] at c0 c1 c2 c3 c4 c5
      have hoff : ∀ r, r < 6 → (j * 6 + r < k * 6 ∨ k * 6 + 6 ≤ j * 6 + r) := fun r hr => by omega
      refine ⟨pv', lv', (hc9 _ (hoff 0 (by omega))).trans c0, (hc9 _ (hoff 1 (by omega))).trans c1, (hc9 _ (hoff 2 (by omega))).trans c2, (hc9 _ (hoff 3 (by omega))).trans c3, (hc9 _ (hoff 4 (by omega))).trans c4, (hc9 _ (hoff 5 (by omega))).trans c5, ?_, hli.imp (fun b hb => hlow b _ hb (by simp)) (fun _ b o z hb _ hz => hz.same (hcell b _ hb (by simp) (by simp)))⟩
      refine hph.imp (fun b hb => hlow b _ hb (by simp)) (fun m b o z hb _ hz => ?_)
      obtain ⟨h0, av, h1, h2⟩ := hz
      have eb := hcell b _ hb (by simp) (by simp)
      exact ⟨(cell_same eb _).trans h0, av, (cell_same eb _).trans h1, h2.imp (fun b hb => hlow b _ hb (by simp)) (fun _ b o z hb _ hz => hz.same (hcell b _ hb (by simp) (by simp)))⟩
  · by_cases e : b = gl
    · omega
    · by_cases e2 : w.heap.size ≤ b
      · omega
      · rw [ownBk_low (by omega) (by omega)] at hb
        exact h.low b hb
  · by_cases e : b = gl
    · omega
    · by_cases e2 : w.heap.size ≤ b
      · have hb2 : ownB own own2 w.heap.size gl k b = own2 b := by unfold ownB; rw [if_neg e, if_pos e2]
        rw [hb2] at hb
        have := (hP b hb).2.1
        omega
      · omega
  · rw [hfz]
    by_cases e : b = gl
    · rw [e]; exact hz j
    · by_cases e2 : w.heap.size ≤ b
      · have hb2 : ownB own own2 w.heap.size gl k b = own2 b := by unfold ownB; rw [if_neg e, if_pos e2]
        rw [hb2] at hb
        obtain ⟨_, b2, b3, _⟩ := hP b hb
        exact (frozen_same (hF3.block b b2 (by omega)) j).trans (b3 j)
      · rw [ownBk_low (by omega) (by omega)] at hb
        exact (frozen_same (e4 b (by omega) (h.low b hb)) j).trans (h.thaw b hb j)
end Go.Proofs.YthdioeeanodjiaaDoor

namespace Go.Proofs.YthdioeeanodjiaaDoor
open Go.ChangeShapes Go.WideShapes Go.ChangeAt Go.RowKit
set_option linter.unusedVariables false
set_option linter.unusedSimpArgs false

def blockLim (x : BlockD) : Prop := x.phis.length ≤ 24 ∧ (∀ p ∈ x.phis, phiLim p) ∧ x.list.length ≤ 24 ∧ (∀ z ∈ x.list, Named z.op) ∧ EndNamed x.term.k
/-- Its lists are small. -/
def blockSm (x : BlockD) : Prop := x.phis.length ≤ 24 ∧ (∀ p ∈ x.phis, phiLim p) ∧ x.list.length ≤ 24
/-- A program was read. -/
def GivesRd (w : World) (BX AX : Nat) (v : Value) (l : List UInt8) (p : Nat) (e : Ending) (w' : World) : Prop :=
  ∃ (F : FnD) (own : OwnF) (g p' : Nat), e = .returned (.agg #[.slice (some ⟨g, 0, none⟩) F.blocks.length F.blocks.length, .int .i64 F.values]) ∧ F.blocks.length ≤ 16 ∧ (∀ x ∈ F.blocks, blockSm x) ∧ FnO w.heap.size own w' (.slice (some ⟨g, 0, none⟩) F.blocks.length F.blocks.length) F.blocks ∧ RdI w' BX AX v l p' ∧ FrB AX w w' ∧ ∀ F0, F0.blocks.length ≤ 16 → (∀ x ∈ F0.blocks, blockLim x) → On l p (fnN F0) → F = F0
theorem fn_new {n g lo : Nat} {w : World} (hn : n ≤ 1000) (hlo : lo ≤ g) (hg : g < w.heap.size) (hz : ∀ j, w.frozen? ⟨g, j, none⟩ = false) (hV : RowV 6 w g (List.replicate n [.slice none 0 0, .slice none 0 0, .int .i64 0, .int .i64 0, .int .i64 0, .int .i64 0])) : FnO lo (fun b => if b = g then (0, 0, 0) else (9, 0, 0)) w (.slice (some ⟨g, 0, none⟩) n n) (List.replicate n ⟨[], [], ⟨0, 0, 0, 0⟩⟩) := by
  have hown : ∀ b, ((fun b => if b = g then ((0, 0, 0) : Nat × Nat × Nat) else (9, 0, 0)) b).1 ≤ 3 → b = g := fun b hb => by
    by_cases e : b = g
    · exact e
    · simp [e] at hb
  refine ⟨⟨_, n, by rw [List.length_replicate], by rw [List.length_replicate]; omega, fun _ => ⟨g, 0, rfl, by simp, fun j y hy => ?_⟩⟩, fun b hb => by rw [hown b hb]; exact hlo, fun b hb => by rw [hown b hb]; exact hg, fun b hb j => by rw [hown b hb]; exact hz j⟩
  obtain ⟨hj, e⟩ := List.getElem?_eq_some_iff.1 hy
  rw [List.getElem_replicate] at e
  subst e
  rw [List.length_replicate] at hj
  have hr := (hV j _ (by rw [List.getElem?_replicate, if_pos hj])).2
  rw [Nat.zero_add]
  exact ⟨.slice none 0 0, .slice none 0 0, hr 0 _ rfl, hr 1 _ rfl, hr 2 _ rfl, hr 3 _ rfl, hr 4 _ rfl, hr 5 _ rfl, ListO.nil _ _, ListO.nil _ _⟩

set_option maxRecDepth 100000 in
set_option maxHeartbeats 8000000 in
theorem fn_any {w : World} {BX AX : Nat} {v : Value} {l : List UInt8} {p : Nat} (h : RdI w BX AX v l p) :
    Calls Tryd.prog 30 #[clo BX AX] w fun e w' => GivesRd w BX AX v l p e w' := by
  obtain ⟨hA, hF, hq, hne, hsz⟩ := h.box #[.slice none 0 0, .int .i64 0] 26
  have HR : Hid (RdI (w.alloc (.cells #[.slice none 0 0, .int .i64 0] 26)) BX AX v l p) := hA
  have HF : Hid (FrB AX w (w.alloc (.cells #[.slice none 0 0, .int .i64 0] 26))) := hF
  have HQ : Hid ((w.alloc (.cells #[.slice none 0 0, .int .i64 0] 26)).heap[w.heap.size]? = some (.cells #[.slice none 0 0, .int .i64 0] 26 (0, 0))) := hq
  have HN : Hid (AX < w.heap.size) := h.lt
  have HR0 : Hid (RdI w BX AX v l p) := h
  clear hA hF hq hne h hsz
  go_enter Tryd.func30, Tryd.ntmps30
  go_wp2_with fail
  generalize w.alloc (.cells #[.slice none 0 0, .int .i64 0] 26) = wA at HR HF HQ ⊢
  obtain ⟨Q, HQQ⟩ : ∃ Q, Hid (w.heap.size = Q) := ⟨_, rfl⟩
  rw [HQQ.out] at HQ HN ⊢
  refine (next_any HR.out).mono ?_
  rintro e w1 ⟨vals, p1, rfl, hR, hF, hS, hO⟩
  have HR1 : Hid (RdI w1 BX AX v l p1) := hR
  have HF1 : Hid (FrB AX w w1) := HF.out.trans hF
  have HO1 : Hid (∀ y ys, On l p (y :: ys) → vals = y ∧ On l p1 ys) := hO
  have HQ1 : Hid (w1.heap[Q]? = some (.cells #[.slice none 0 0, .int .i64 0] 26 (0, 0))) := hF.at HQ.out rfl (by have := HN.out; omega)
  clear hR hF hS hO HR HF HQ
  go_wp2_with fail
  obtain ⟨hA, hF, hq, hne, hsz⟩ := HR1.out.box #[.slice none 0 0, .int .i64 vals] 26
  have HR2 : Hid (RdI (w1.alloc (.cells #[.slice none 0 0, .int .i64 vals] 26)) BX AX v l p1) := hA
  have HF2 : Hid (FrB AX w (w1.alloc (.cells #[.slice none 0 0, .int .i64 vals] 26))) := HF1.out.trans hF
  have HP2 : Hid ((w1.alloc (.cells #[.slice none 0 0, .int .i64 vals] 26)).heap[w1.heap.size]? = some (.cells #[.slice none 0 0, .int .i64 vals] 26 (0, 0))) := hq
  have HQ2 : Hid ((w1.alloc (.cells #[.slice none 0 0, .int .i64 vals] 26)).heap[Q]? = some (.cells #[.slice none 0 0, .int .i64 0] 26 (0, 0))) := hF.at HQ1.out rfl (by have := HN.out; omega)
  have HPN : Hid (w1.heap.size ≠ AX ∧ Q < w1.heap.size ∧ w1.heap.size < (w1.alloc (.cells #[.slice none 0 0, .int .i64 vals] 26)).heap.size) := ⟨hne, (Array.getElem?_eq_some_iff.1 HQ1.out).1, by simp⟩
  clear hA hF hq hne hsz
  generalize w1.alloc (.cells #[.slice none 0 0, .int .i64 vals] 26) = w2 at HR2 HF2 HP2 HQ2 HPN ⊢
  obtain ⟨P, HPP⟩ : ∃ P, Hid (w1.heap.size = P) := ⟨_, rfl⟩
  rw [HPP.out] at HP2 HPN ⊢
  refine (count_any 16 (by omega) HR2.out).mono ?_
  rintro e w3 ⟨n, p2, rfl, hn, hR, hF, hS, hO⟩
  have hmk : (Instr.makeSlice 24 (.int .i64 (n : Int)) (.int .i64 (n : Int))).run Tryd.prog w3 = .ok (.slice (some ⟨w3.heap.size, 0, none⟩) n n) (w3.alloc (.cells (madeCells #[.slice none 0 0, .slice none 0 0, .int .i64 0, .int .i64 0, .int .i64 0, .int .i64 0] (n * 6)) 46)) := make_rows 24 46 (.agg #[.slice none 0 0, .slice none 0 0, .int .i64 0, .int .i64 0, .int .i64 0, .int .i64 0]) 6 80 Tryd.underlying24 (by kernel_rfl) n (by omega) (by omega) w3
  have HRm : Hid (RdI (w3.alloc (.cells (madeCells #[.slice none 0 0, .slice none 0 0, .int .i64 0, .int .i64 0, .int .i64 0, .int .i64 0] (n * 6)) 46)) BX AX v l p2) := hR.alloc _
  have HFm : Hid (FrB AX w (w3.alloc (.cells (madeCells #[.slice none 0 0, .slice none 0 0, .int .i64 0, .int .i64 0, .int .i64 0, .int .i64 0] (n * 6)) 46))) := (HF2.out.trans hF).trans (FrB.ofBelow (Bel.alloc _ _))
  have hF2 : FrB AX w2 (w3.alloc (.cells (madeCells #[.slice none 0 0, .slice none 0 0, .int .i64 0, .int .i64 0, .int .i64 0, .int .i64 0] (n * 6)) 46)) := hF.trans (FrB.ofBelow (Bel.alloc _ _))
  have HPm : Hid ((w3.alloc (.cells (madeCells #[.slice none 0 0, .slice none 0 0, .int .i64 0, .int .i64 0, .int .i64 0, .int .i64 0] (n * 6)) 46)).heap[P]? = some (.cells #[.slice none 0 0, .int .i64 vals] 26 (0, 0))) := hF2.at HP2.out rfl HPN.out.1
  have HQm : Hid ((w3.alloc (.cells (madeCells #[.slice none 0 0, .slice none 0 0, .int .i64 0, .int .i64 0, .int .i64 0, .int .i64 0] (n * 6)) 46)).heap[Q]? = some (.cells #[.slice none 0 0, .int .i64 0] 26 (0, 0))) := hF2.at HQ2.out rfl (by have := HN.out; omega)
  have HG : Hid (w.heap.size ≤ w3.heap.size ∧ P < w3.heap.size ∧ Q < w3.heap.size) := ⟨by have := HF2.out.size; have := hF.size; omega, by have := HPN.out.2.2; omega, by have := HPN.out.2; omega⟩
  have HVm : Hid (FnO w.heap.size (fun b => if b = w3.heap.size then (0, 0, 0) else (9, 0, 0)) (w3.alloc (.cells (madeCells #[.slice none 0 0, .slice none 0 0, .int .i64 0, .int .i64 0, .int .i64 0, .int .i64 0] (n * 6)) 46)) (.slice (some ⟨w3.heap.size, 0, none⟩) n n) (List.replicate n ⟨[], [], ⟨0, 0, 0, 0⟩⟩)) := fn_new (by omega) HG.out.1 (by simp) (froz_new _ _ _) (RowV.made w3 _ 6 n _ rfl (by omega))
  have HO2 : Hid (∀ (y : Nat) ys, (y : Int) ≤ 16 → On l p1 ((y : Int) :: ys) → n = y ∧ On l p2 ys) := hO
  have c0 : (w3.alloc (.cells (madeCells #[.slice none 0 0, .slice none 0 0, .int .i64 0, .int .i64 0, .int .i64 0, .int .i64 0] (n * 6)) 46)).cell? ⟨P, 0, none⟩ = some (.slice none 0 0) := by simp only [World.cell?, HPm.out]; rfl
  have cz : (w3.alloc (.cells (madeCells #[.slice none 0 0, .slice none 0 0, .int .i64 0, .int .i64 0, .int .i64 0, .int .i64 0] (n * 6)) 46)).frozen? ⟨P, 0, none⟩ = false := by simp only [World.frozen?, HPm.out]; rfl
  clear hR hF hS hO hF2
  go_wp2_with fail
  clear hmk c0 cz
  generalize w3.alloc (.cells (madeCells #[.slice none 0 0, .slice none 0 0, .int .i64 0, .int .i64 0, .int .i64 0, .int .i64 0] (n * 6)) 46) = wm at HRm HFm HVm HPm HQm ⊢
  obtain ⟨g, hg⟩ : ∃ g, w3.heap.size = g := ⟨_, rfl⟩
  rw [hg] at HVm HG ⊢
  clear hg
  obtain ⟨hR5, hF5⟩ := HR0.out.fill HRm.out HFm.out (by have := HPN.out.2; have := HQQ.out; omega) 0 [.slice (some ⟨g, 0, none⟩) n n] (Q := P)
  have HR5 : Hid (RdI (wm.setCell ⟨P, 0, none⟩ (.slice (some ⟨g, 0, none⟩) n n)) BX AX v l p2) := hR5
  have HF5 : Hid (FrB AX w (wm.setCell ⟨P, 0, none⟩ (.slice (some ⟨g, 0, none⟩) n n))) := hF5
  have HP5 : Hid ((wm.setCell ⟨P, 0, none⟩ (.slice (some ⟨g, 0, none⟩) n n)).heap[P]? = some (.cells #[.slice (some ⟨g, 0, none⟩) n n, .int .i64 vals] 26 (0, 0))) := by
    show _ = _
    simp [World.setCell, Array.getElem?_modify, HPm.out]
  have HQ5 : Hid ((wm.setCell ⟨P, 0, none⟩ (.slice (some ⟨g, 0, none⟩) n n)).heap[Q]? = some (.cells #[.slice none 0 0, .int .i64 0] 26 (0, 0))) := (Below.heap_setCell _ _ _ Q (show Q ≠ P by have := HPN.out.2; omega)).trans HQm.out
  have HV5 : Hid (FnO w.heap.size (fun b => if b = g then (0, 0, 0) else (9, 0, 0)) (wm.setCell ⟨P, 0, none⟩ (.slice (some ⟨g, 0, none⟩) n n)) (.slice (some ⟨g, 0, none⟩) n n) (List.replicate n ⟨[], [], ⟨0, 0, 0, 0⟩⟩)) := HVm.out.same (fun b hb => Below.heap_setCell _ _ _ b (fun e => by
    have e2 : b = P := e
    have hne : ¬ b = g := by have := HG.out.2.1; omega
    simp [hne] at hb)) (by simp)
  clear hR5 hF5 HRm HFm HPm HQm HVm
  generalize wm.setCell ⟨P, 0, none⟩ (.slice (some ⟨g, 0, none⟩) n n) = w5 at HR5 HF5 HP5 HQ5 HV5 ⊢
  have HX : Hid (P ≠ AX ∧ Q ≠ AX ∧ g ≠ P ∧ g ≠ Q ∧ AX < w.heap.size ∧ w.heap.size ≤ P ∧ w.heap.size ≤ Q) := ⟨HPN.out.1, by have := HN.out; omega, by have := HG.out.2.1; omega, by have := HG.out.2.2; omega, by rw [HQQ.out]; exact HN.out, by have := HPN.out.2; have := HQQ.out; omega, Nat.le_of_eq HQQ.out⟩
  go_loopw [15] (fun iv wr => ∃ (k : Nat) (cur : List BlockD) (q : Nat) (own : OwnF), k ≤ n ∧ iv = .int .i64 (k : Int) ∧ cur.length = n ∧ RdI wr BX AX v l q ∧ FrB AX w wr ∧ FnO w.heap.size own wr (.slice (some ⟨g, 0, none⟩) n n) cur ∧ own g = (0, 0, 0) ∧ ¬ (own Q).1 ≤ 3 ∧ (∀ x ∈ cur, blockSm x) ∧ SoFar blockN blockLim 16 l p1 q n k cur ∧ wr.heap[P]? = some (.cells #[.slice (some ⟨g, 0, none⟩) n n, .int .i64 vals] 26 (0, 0)) ∧ wr.heap[Q]? = some (.cells #[.slice none 0 0, .int .i64 0] 26 (0, 0))) (fun iv _ => n - (intOf iv).toNat)
  case atStart => exact ⟨0, _, p2, _, Nat.zero_le _, rfl, List.length_replicate, HR5.out, HF5.out, HV5.out, by simp, by have := HX.out.2.2.2.1; simp [Ne.symm this], fun x hx => by rw [List.eq_of_mem_replicate hx]; exact ⟨Nat.zero_le _, fun _ h => (List.not_mem_nil h).elim, Nat.zero_le _⟩, SoFar.zero HO2.out, HP5.out, HQ5.out⟩
  case round =>
    obtain ⟨wq, hwq⟩ : ∃ x, x = wr := ⟨_, rfl⟩
    subst hwq
    obtain ⟨k, cur, q, own, hk, rfl, hc, hR, hF, hV, hog, hoq, hL, hS, hPc, hQc⟩ := hrel
    have HOQ : Hid (¬ (own Q).1 ≤ 3) := hoq
    have HC : Hid (cur.length = n) := hc
    have HRq : Hid (RdI wq BX AX v l q) := hR
    have HFq : Hid (FrB AX w wq) := hF
    have HVq : Hid (FnO w.heap.size own wq (.slice (some ⟨g, 0, none⟩) n n) cur) := hV
    have HOG : Hid (own g = (0, 0, 0)) := hog
    have HLq : Hid (∀ x ∈ cur, blockSm x) := hL
    have HSq : Hid (SoFar blockN blockLim 16 l p1 q n k cur) := hS
    have HPq : Hid (wq.heap[P]? = some (.cells #[.slice (some ⟨g, 0, none⟩) n n, .int .i64 vals] 26 (0, 0))) := hPc
    have HQq : Hid (wq.heap[Q]? = some (.cells #[.slice none 0 0, .int .i64 0] 26 (0, 0))) := hQc
    have c0 : wq.cell? ⟨P, 0, none⟩ = some (.slice (some ⟨g, 0, none⟩) n n) := by simp [World.cell?, hPc]
    have c1 : wq.cell? ⟨P, 1, none⟩ = some (.int .i64 vals) := by simp [World.cell?, hPc]
    clear hc hR hF hV hog hoq hL hS hPc hQc
    by_cases hlt : (k : Int) < (n : Int)
    · go_wp2_with fail
      refine wp_noThrow (region_M 11 (fun w' => w'.cell? ⟨P, 0, none⟩ = some (.slice (some ⟨g, 0, none⟩) n n)) (by kernel_rfl) ?_)
      have hHeld : wq.drew.cell? ⟨P, 0, none⟩ = some (.slice (some ⟨g, 0, none⟩) n n) := by simpa using c0
      have HFd : Hid (FrB AX wq wq.drew) := FrB.ofBelow ((Below.refl _ _).drew)
      have HRd : Hid (RdI wq.drew BX AX v l q) := HRq.out.turn HFd.out ((((Below.refl wq.heap.size wq).drew).block AX HRq.out.lt).trans HRq.out.ax) HRq.out.hp
      have HSd : Hid (wq.heap.size ≤ wq.drew.heap.size) := HFd.out.size
      clear c0 c1
      refine wpAnyM_take (i := 0) (oi := { dst := some 18, op := Go.Op.fieldAddr 26 (Go.Operand.tmp 3) 0, type := 0, pos := "l19_pack.go:140", after := #[], guard := none }) (v := ?_) rfl (by kernel_rfl) (by kernel_rfl) (by kernel_rfl) (by kernel_rfl) (fun _ _ _ h => h) (Or.inl ⟨by rfl, ?_⟩) (by assumption) ?_
      rotate_left
      · intro w hSw
        (try dsimp only at hSw)
        go_simp
        (try with_reducible rfl)
      try simp only [Act.put, List.setIfInBounds_toArray, List.set_cons_zero, List.set_cons_succ]
      refine wpAnyM_take (i := 1) (oi := { dst := some 19, op := Go.Op.load 24 (Go.Operand.tmp 18), type := 24, pos := "l19_pack.go:140", after := #[{ on := 0, ground := Go.Ground.data }], guard := none }) (v := ?_) rfl (by kernel_rfl) (by kernel_rfl) (by kernel_rfl) (by kernel_rfl) (fun _ _ _ h => h) (Or.inl ⟨by rfl, ?_⟩) (by assumption) ?_
      rotate_left
      · intro w hSw
        (try dsimp only at hSw)
        go_simp
        (try with_reducible rfl)
      try simp only [Act.put, List.setIfInBounds_toArray, List.set_cons_zero, List.set_cons_succ]
      refine wpAnyM_take (i := 2) (oi := { dst := some 20, op := Go.Op.move (Go.Operand.tmp 4), type := 3, pos := "l19_pack.go:140", after := #[], guard := none }) (v := ?_) rfl (by kernel_rfl) (by kernel_rfl) (by kernel_rfl) (by kernel_rfl) (fun _ _ _ h => h) (Or.inl ⟨by rfl, ?_⟩) (by assumption) ?_
      rotate_left
      · intro w hSw
        (try dsimp only at hSw)
        go_simp
        (try with_reducible rfl)
      try simp only [Act.put, List.setIfInBounds_toArray, List.set_cons_zero, List.set_cons_succ]
      refine wpAnyM_take (i := 3) (oi := { dst := some 21, op := Go.Op.move (Go.Operand.tmp 0), type := 65, pos := "l19_pack.go:140", after := #[], guard := none }) (v := ?_) rfl (by kernel_rfl) (by kernel_rfl) (by kernel_rfl) (by kernel_rfl) (fun _ _ _ h => h) (Or.inl ⟨by rfl, ?_⟩) (by assumption) ?_
      rotate_left
      · intro w hSw
        (try dsimp only at hSw)
        go_simp
        (try with_reducible rfl)
      try simp only [Act.put, List.setIfInBounds_toArray, List.set_cons_zero, List.set_cons_succ]
      refine wpAnyM_take (i := 5) (oi := { dst := some 23, op := Go.Op.move (Go.Operand.tmp 0), type := 65, pos := "l19_pack.go:140", after := #[], guard := none }) (v := ?_) rfl (by kernel_rfl) (by kernel_rfl) (by kernel_rfl) (by kernel_rfl) (fun _ _ _ h => h) (Or.inl ⟨by rfl, ?_⟩) (by assumption) ?_
      rotate_left
      · intro w hSw
        (try dsimp only at hSw)
        go_simp
        (try with_reducible rfl)
      try simp only [Act.put, List.setIfInBounds_toArray, List.set_cons_zero, List.set_cons_succ]
      refine wpAnyM_take (i := 7) (oi := { dst := some 25, op := Go.Op.move (Go.Operand.tmp 0), type := 65, pos := "l19_pack.go:140", after := #[], guard := none }) (v := ?_) rfl (by kernel_rfl) (by kernel_rfl) (by kernel_rfl) (by kernel_rfl) (fun _ _ _ h => h) (Or.inl ⟨by rfl, ?_⟩) (by assumption) ?_
      rotate_left
      · intro w hSw
        (try dsimp only at hSw)
        go_simp
        (try with_reducible rfl)
      try simp only [Act.put, List.setIfInBounds_toArray, List.set_cons_zero, List.set_cons_succ]
      clear hHeld
      generalize wq.drew = wD at HFd HRd HSd ⊢
      refine cmAnyM_oneK (i := 4) (o := { dst := some 22, op := Go.Op.call { callee := Go.Callee.value (Go.Operand.func 50), args := #[Go.Operand.tmp 21], argTypes := #[65] }, type := 41, pos := "l19_pack.go:140", after := #[{ on := 3, ground := Go.Ground.data }], guard := none }) rfl rfl (by kernel_rfl) (fun K9 hK9 => ?_)
      refine wp_call_of (f := 50) (args := #[clo BX AX]) (by go_simp) (phis_any k HRd.out) ?_
      rintro e w6 ⟨LP, gp, q1, ownp, rfl, hLn, hLl, hPh, hOw, hR, hF, hO⟩
      have HF6 : Hid (FrB AX wq w6) := HFd.out.trans hF
      have HR6 : Hid (RdI w6 BX AX v l q1) := hR
      have HL6 : Hid (LP.length ≤ 24 ∧ (∀ x ∈ LP, phiLim x) ∧ PhisO ownp k w6 (.slice (some ⟨gp, 0, none⟩) LP.length LP.length) LP ∧ OwnP ownp k wq.heap.size w6) := ⟨hLn, hLl, hPh, fun b hb => ⟨Nat.le_trans HSd.out (hOw b hb).1, (hOw b hb).2⟩⟩
      have HO6 : Hid (Got l q true q1 true (fun L : List PhiD => (L.length : Int) :: L.flatMap phiN) (fun L => L.length ≤ 24 ∧ ∀ x ∈ L, phiLim x) LP) := hO
      have HP6 : Hid (w6.heap[P]? = some (.cells #[.slice (some ⟨g, 0, none⟩) n n, .int .i64 vals] 26 (0, 0))) := HF6.out.at HPq.out rfl HX.out.1
      have HQ6 : Hid (w6.heap[Q]? = some (.cells #[.slice none 0 0, .int .i64 0] 26 (0, 0))) := HF6.out.at HQq.out rfl HX.out.2.1
      refine ⟨_, rfl, hK9 _ _ ⟨fun _ => by simp [World.cell?, HP6.out], ?_⟩⟩
      (try simp only [Act.put, List.setIfInBounds_toArray, List.set_cons_zero, List.set_cons_succ])
      clear hK9 hLn hLl hPh hOw hR hF hO HFd HRd HSd
      refine cmAnyM_oneK (i := 6) (o := { dst := some 24, op := Go.Op.call { callee := Go.Callee.value (Go.Operand.func 51), args := #[Go.Operand.tmp 23], argTypes := #[65] }, type := 42, pos := "l19_pack.go:140", after := #[{ on := 5, ground := Go.Ground.data }, { on := 4, ground := Go.Ground.chain }], guard := none }) rfl rfl (by kernel_rfl) (fun K9 hK9 => ?_)
      refine wp_call_of (f := 51) (args := #[clo BX AX]) (by go_simp) (list_any HR6.out) ?_
      rintro e w7 ⟨LI, gl, q2, rfl, hLi, hgl1, hgl2, hVl, hzl, hR, hF, hO⟩
      have HF7 : Hid (FrB AX wq w7) := HF6.out.trans hF
      have HF67 : Hid (FrB AX w6 w7) := hF
      have HR7 : Hid (RdI w7 BX AX v l q2) := hR
      have HL7 : Hid (LI.length ≤ 24 ∧ w6.heap.size ≤ gl ∧ gl < w7.heap.size ∧ RowV 5 w7 gl (LI.map insC) ∧ ∀ j, w7.frozen? ⟨gl, j, none⟩ = false) := ⟨hLi, hgl1, hgl2, hVl, hzl⟩
      have HO7 : Hid (Got l q1 true q2 true (fun L : List InsD => (L.length : Int) :: L.flatMap insN1) (fun L => L.length ≤ 24 ∧ ∀ x ∈ L, Named x.op) LI) := hO
      have HP7 : Hid (w7.heap[P]? = some (.cells #[.slice (some ⟨g, 0, none⟩) n n, .int .i64 vals] 26 (0, 0))) := hF.at HP6.out rfl HX.out.1
      have HQ7 : Hid (w7.heap[Q]? = some (.cells #[.slice none 0 0, .int .i64 0] 26 (0, 0))) := hF.at HQ6.out rfl HX.out.2.1
      refine ⟨_, rfl, hK9 _ _ ⟨fun _ => by simp [World.cell?, HP7.out], ?_⟩⟩
      (try simp only [Act.put, List.setIfInBounds_toArray, List.set_cons_zero, List.set_cons_succ])
      clear hK9 hLi hgl1 hgl2 hVl hzl hR hF hO
      refine cmAnyM_oneK (i := 8) (o := { dst := some 26, op := Go.Op.call { callee := Go.Callee.value (Go.Operand.func 52), args := #[Go.Operand.tmp 25], argTypes := #[65] }, type := 44, pos := "l19_pack.go:140", after := #[{ on := 7, ground := Go.Ground.data }, { on := 6, ground := Go.Ground.chain }], guard := none }) rfl rfl (by kernel_rfl) (fun K9 hK9 => ?_)
      refine wp_call_of (f := 52) (args := #[clo BX AX]) (by go_simp) (term_any HR7.out) ?_
      rintro e w8 ⟨tm, q3, rfl, hR, hF, hO⟩
      have HF8 : Hid (FrB AX wq w8) := HF7.out.trans hF
      have HF68 : Hid (FrB AX w6 w8) := HF67.out.trans hF
      have HR8 : Hid (RdI w8 BX AX v l q3) := hR
      have HO8 : Hid (Got l q2 true q3 true termN (fun t => EndNamed t.k) tm) := hO
      have HP8 : Hid (w8.heap[P]? = some (.cells #[.slice (some ⟨g, 0, none⟩) n n, .int .i64 vals] 26 (0, 0))) := hF.at HP7.out rfl HX.out.1
      have HQ8 : Hid (w8.heap[Q]? = some (.cells #[.slice none 0 0, .int .i64 0] 26 (0, 0))) := hF.at HQ7.out rfl HX.out.2.1
      have hga := HL7.out.2.2.1
      have hgaX : gl ≠ AX := by
        have := HL7.out.2.1
        have := HF6.out.size
        have := HFq.out.size
        have := HX.out.2.2.2.2.1
        omega
      have heg := hF.block gl hga hgaX
      have HL8 : Hid (gl < w8.heap.size ∧ RowV 5 w8 gl (LI.map insC) ∧ ∀ j, w8.frozen? ⟨gl, j, none⟩ = false) := ⟨Nat.lt_of_lt_of_le hga hF.size, HL7.out.2.2.2.1.same heg, fun j => (frozen_same heg j).trans (HL7.out.2.2.2.2 j)⟩
      refine ⟨_, rfl, hK9 _ _ ⟨fun _ => by simp [World.cell?, HP8.out], ?_⟩⟩
      (try simp only [Act.put, List.setIfInBounds_toArray, List.set_cons_zero, List.set_cons_succ])
      clear hK9 hR hF hO hga hgaX heg
      have hHeld : w8.cell? ⟨P, 0, none⟩ = some (.slice (some ⟨g, 0, none⟩) n n) := by simp [World.cell?, HP8.out]
      refine wpAnyM_take (i := 9) (oi := { dst := some 27, op := Go.Op.build 46 #[(0, Go.Operand.tmp 22), (1, Go.Operand.tmp 24), (2, Go.Operand.tmp 26)], type := 46, pos := "l19_pack.go:140", after := #[{ on := 4, ground := Go.Ground.data }, { on := 6, ground := Go.Ground.data }, { on := 8, ground := Go.Ground.data }], guard := none }) (v := ?_) rfl (by kernel_rfl) (by kernel_rfl) (by kernel_rfl) (by kernel_rfl) (fun _ _ _ h => h) (Or.inl ⟨by rfl, ?_⟩) (by assumption) ?_
      rotate_left
      · intro w hSw
        (try dsimp only at hSw)
        go_simp
        (try with_reducible rfl)
      try simp only [Act.put, List.setIfInBounds_toArray, List.set_cons_zero, List.set_cons_succ]
      refine wpAnyM_take (i := 10) (oi := { dst := some 28, op := Go.Op.indexAddr 24 (Go.Operand.tmp 19) (Go.Operand.tmp 20), type := 0, pos := "l19_pack.go:140", after := #[{ on := 1, ground := Go.Ground.data }, { on := 2, ground := Go.Ground.data }, { on := 0, ground := Go.Ground.phase }, { on := 1, ground := Go.Ground.phase }, { on := 2, ground := Go.Ground.phase }, { on := 3, ground := Go.Ground.phase }, { on := 4, ground := Go.Ground.phase }, { on := 5, ground := Go.Ground.phase }, { on := 6, ground := Go.Ground.phase }, { on := 7, ground := Go.Ground.phase }, { on := 8, ground := Go.Ground.phase }, { on := 9, ground := Go.Ground.phase }], guard := none }) (v := ?_) rfl (by kernel_rfl) (by kernel_rfl) (by kernel_rfl) (by kernel_rfl) (fun _ _ _ h => h) (Or.inl ⟨by rfl, ?_⟩) (by assumption) ?_
      rotate_left
      · intro w hSw
        (try dsimp only at hSw)
        go_simp
        (try with_reducible rfl)
      try simp only [Act.put, List.setIfInBounds_toArray, List.set_cons_zero, List.set_cons_succ]
      refine cmAnyM_oneK (i := 11) (o := { dst := none, op := Go.Op.store 46 (Go.Operand.tmp 28) (Go.Operand.tmp 27), type := 0, pos := "l19_pack.go:140", after := #[{ on := 10, ground := Go.Ground.data }, { on := 9, ground := Go.Ground.data }, { on := 8, ground := Go.Ground.chain }, { on := 0, ground := Go.Ground.phase }, { on := 1, ground := Go.Ground.phase }, { on := 2, ground := Go.Ground.phase }, { on := 3, ground := Go.Ground.phase }, { on := 4, ground := Go.Ground.phase }, { on := 5, ground := Go.Ground.phase }, { on := 6, ground := Go.Ground.phase }, { on := 7, ground := Go.Ground.phase }, { on := 8, ground := Go.Ground.phase }, { on := 9, ground := Go.Ground.phase }], guard := none }) rfl rfl (by kernel_rfl) (fun K9 hK9 => ?_)
      have hgo : (own g).1 ≤ 3 := by rw [HOG.out]; simp
      have hge : w8.heap[g]? = wq.heap[g]? := HF8.out.block g (HVq.out.high g hgo) (by have := HVq.out.low g hgo; have := HX.out.2.2.2.2.1; omega)
      have hth := block_there (k := k) HVq.out HOG.out hge (by rw [HC.out]; omega)
      refine wp_store_mid 46 (.tmp 28) (.tmp 27) rfl g (k * 6) _ rfl rfl hth (by kernel_rfl) (by simp [Value.oneCell']) (hK9 _ _ ⟨fun h => absurd rfl h, ?_⟩)
      clear hK9 hth hge hHeld
      (try simp only [Act.put, List.setIfInBounds_toArray, List.set_cons_zero, List.set_cons_succ])
      have hV9 := HVq.out.putB (own2 := ownp) (k := k) (gl := gl) HOG.out HF8.out HF68.out HF6.out.size HX.out.2.2.2.2.1 HFq.out.size ⟨LP, LI, tm⟩ (.slice (some ⟨gp, 0, none⟩) LP.length LP.length) HL6.out.2.2.1 HL6.out.2.2.2 HL7.out.2.1 HL8.out.1 HL8.out.2.2 HL8.out.2.1 (by have := HL7.out.1; show LI.length ≤ 1000; omega) HC.out (by omega)
      obtain ⟨hR9, hF9⟩ := HR0.out.fill HR8.out (HFq.out.trans HF8.out) (HVq.out.low g hgo) (k * 6) (blockC (.slice (some ⟨gp, 0, none⟩) LP.length LP.length) (.slice (some ⟨gl, 0, none⟩) LI.length LI.length) tm) (Q := g)
      have HV9 : Hid _ := hV9
      have HR9 : Hid _ := hR9
      have HF9 : Hid _ := hF9
      have HP9 : Hid ((w8.setCells g (k * 6) (blockC (.slice (some ⟨gp, 0, none⟩) LP.length LP.length) (.slice (some ⟨gl, 0, none⟩) LI.length LI.length) tm)).heap[P]? = _) := (heap_setCells g (show P ≠ g by have := HX.out.2.2.1; omega) _ _ w8).trans HP8.out
      have HQ9 : Hid ((w8.setCells g (k * 6) (blockC (.slice (some ⟨gp, 0, none⟩) LP.length LP.length) (.slice (some ⟨gl, 0, none⟩) LI.length LI.length) tm)).heap[Q]? = _) := (heap_setCells g (show Q ≠ g by have := HX.out.2.2.2.1; omega) _ _ w8).trans HQ8.out
      clear hV9 hR9 hF9
      change wpAnyM _ _ _ _ _ _ _ _ _ (w8.setCells g (k * 6) (blockC (.slice (some ⟨gp, 0, none⟩) LP.length LP.length) (.slice (some ⟨gl, 0, none⟩) LI.length LI.length) tm))
      generalize w8.setCells g (k * 6) (blockC (.slice (some ⟨gp, 0, none⟩) LP.length LP.length) (.slice (some ⟨gl, 0, none⟩) LI.length LI.length) tm) = w9 at HV9 HR9 HF9 HP9 HQ9 ⊢
      refine wpAnyM_done (by kernel_rfl) ?_ _
      simp only [noThrow, Exit.inBlock, Exit.then]
      go_at_K
      go_wp2_with fail
      have hQs : Q < wq.heap.size := (Array.getElem?_eq_some_iff.1 HQq.out).1
      have hgl : wq.heap.size ≤ gl := Nat.le_trans HF6.out.size HL7.out.2.1
      refine ⟨⟨k + 1, cur.set k ⟨LP, LI, tm⟩, q3, _, by omega, by simp, by rw [List.length_set, HC.out], HR9.out, HF9.out, HV9.out, (ownBk_low (HVq.out.high g hgo) hgl).trans HOG.out, by rw [ownBk_low hQs hgl]; exact HOQ.out, fun x hx => ?_, HSq.out.step HC.out (by omega) (fun y0 ys hl _ ho => ?_), HP9.out, HQ9.out⟩, by simp [intOf]; omega⟩
      · rcases List.mem_or_eq_of_mem_set hx with h | h
        · exact HLq.out x h
        · rw [h]; exact ⟨HL6.out.1, HL6.out.2.1, HL7.out.1⟩
      · obtain ⟨l1, l2, l3, l4, l5⟩ := hl
        have ho1 : On l q ((y0.phis.length : Int) :: (y0.phis.flatMap phiN ++ ((y0.list.length : Int) :: (y0.list.flatMap insN1 ++ (termN y0.term ++ ys))))) := by
          have e : blockN y0 ++ ys = (y0.phis.length : Int) :: (y0.phis.flatMap phiN ++ ((y0.list.length : Int) :: (y0.list.flatMap insN1 ++ (termN y0.term ++ ys)))) := by
            simp [blockN, phisN, insN, termN]
            rfl
          rw [← e]
          exact ho
        obtain ⟨e1, _, o1⟩ := HO6.out y0.phis _ ⟨l1, l2⟩ rfl ho1
        obtain ⟨e2, _, o2⟩ := HO7.out y0.list _ ⟨l3, l4⟩ rfl o1
        obtain ⟨e3, _, o3⟩ := HO8.out y0.term _ l5 rfl o2
        refine ⟨?_, rfl, o3⟩
        cases y0
        simp at e1 e2 e3
        rw [e1, e2, e3]
    · have q0 : wq.cell? ⟨Q, 0, none⟩ = some (.slice none 0 0) := by simp [World.cell?, HQq.out]
      have q1 : wq.cell? ⟨Q, 1, none⟩ = some (.int .i64 0) := by simp [World.cell?, HQq.out]
      have qz : ∀ j, wq.frozen? ⟨Q, j, none⟩ = false := fun j => by simp [World.frozen?, HQq.out]
      go_wp2_with fail
      obtain ⟨hR9, hF9⟩ := HR0.out.fill HRq.out HFq.out HX.out.2.2.2.2.2.2 0 [.slice (some ⟨g, 0, none⟩) n n, .int .i64 vals] (Q := Q)
      have hV9 := HVq.out.same (w' := wq.setCells Q 0 [.slice (some ⟨g, 0, none⟩) n n, .int .i64 vals]) (fun b hb => heap_setCells Q (fun e => HOQ.out (by rw [← e]; exact hb)) _ _ wq) (Nat.le_of_eq (size_setCells Q _ 0 wq).symm)
      refine bodyPost_ret (v := .agg #[.slice (some ⟨g, 0, none⟩) n n, .int .i64 vals]) (by simp [results, Tryd.results30, go_sem, q0, q1]) rfl ?_
      obtain rfl : k = n := by omega
      refine ⟨⟨cur, vals⟩, own, g, q, by show _ = Ending.returned (.agg #[.slice (some ⟨g, 0, none⟩) cur.length cur.length, .int .i64 vals]); rw [HC.out], by show cur.length ≤ 16; rw [HC.out]; omega, HLq.out, by show FnO _ _ _ (.slice _ cur.length cur.length) cur; rw [HC.out]; exact hV9, hR9, hF9, fun F0 h1 h2 ho => ?_⟩
      obtain ⟨e1, o1⟩ := HO1.out _ _ ho
      obtain ⟨e2, _⟩ := HSq.out.whole HC.out F0.blocks [] ⟨h1, h2⟩ rfl (by simpa using o1)
      cases F0
      simp at e1 e2
      rw [e1, e2]
end Go.Proofs.YthdioeeanodjiaaDoor
