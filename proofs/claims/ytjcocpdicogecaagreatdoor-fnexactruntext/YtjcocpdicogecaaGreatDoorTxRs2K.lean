/- A line read by the program: a step, or the error that it is none. -/
import Derived.Test.YtjcocpdicogecaaGreatDoorTxRlK
import Derived.Test.YtjcocpdicogecaaGreatDoorTxIm3K
import Derived.Test.YtjcocpdicogecaaGreatDoorTxPa1K
namespace Go.Proofs.YtjcocpdicogecaaGreatDoor
open Go.ChangeShapes Go.WideShapes Go.ChangeAt Go.RowKit
set_option linter.unusedVariables false

def EV (EP : Addr) : Value := .iface 156 (.pointer (some EP))
def GivesRead (EP : Addr) (w : World) (l : List UInt8) (e : Ending) (w' : World) : Prop := ∃ (x : InsD) (ev : Value), e = .returned (.tuple #[.agg #[.int .i64 x.op, .int .i64 x.d, .int .i64 x.a, .int .i64 x.b, .int .i64 x.n], ev]) ∧ ((ev = .nilIface ∧ IsLine l x) ∨ (ev = EV EP ∧ ∀ y, ¬ IsLine l y)) ∧ Below w.heap.size w w'
/-- The reading of the pieces. -/
structure RdSt (l : List UInt8) (w : World) (S X : Nat) (fv : Value) (op : Int) (k : Nat) (s : InsD) (wr : World) : Prop where
  rs : RS l op k s
  box : SB wr X s
  ans : SBx wr S 0 0 0 0 0
  pcs : wr.heap[S + 1]? = some (.cells (txC (spl 32 l)).toArray 9 (0, 0))
  fld : OwnFlds wr (X + 1) fv X (kindsX op)
  lo : S + 1 < X
  bel : Below S w wr
theorem OwnFlds.other {w : World} {lo X g : Nat} {v : Value} {l : List (Int × Nat)} (h : OwnFlds w lo v X l) (hg : g < lo) (j : Nat) (u : Value) : OwnFlds (w.setCell ⟨g, j, none⟩ u) lo v X l :=
  ownsRow_setCell_other h (fun e => by have h9 : lo ≤ g := (World.ownsRow.lt h _ e).1; omega) _
theorem RdSt.keep {l : List UInt8} {w wr wr' : World} {S X k : Nat} {fv : Value} {op : Int} {s : InsD} (h : RdSt l w S X fv op k s wr) (hb : Below wr.heap.size wr wr') : RdSt l w S X fv op k s wr' :=
  ⟨h.rs, h.box.keep hb, h.ans.keep hb, (hb.block _ (Array.getElem?_eq_some_iff.1 h.pcs).1).trans h.pcs, h.fld.keep hb, h.lo, h.bel.trans (hb.mono (Nat.le_of_lt h.ans.lt))⟩
theorem RdSt.put {l p : List UInt8} {w wr : World} {S X k : Nat} {fv : Value} {op v : Int} {s : InsD} {q : Int × Nat} (h : RdSt l w S X fv op k s wr) (ho : ((opOfL ((spl 32 l).headD []) : Nat) : Int) = op) (hq : (kindsX op)[k]? = some q) (hp : (spl 32 l)[k + 1]? = some p) (hv : Lib.atoiAll (Lib.trimPrefix p (letL q.1)) = .ok v) :
    RdSt l w S X fv op (k + 1) (setF s q.2 v) (wr.setCell ⟨X, q.2, none⟩ (.int .i64 v)) := by
  have hk := kinds_in (List.mem_of_getElem? hq)
  have hlo := h.lo
  refine ⟨h.rs.next ho hq hp hv, h.box.put hk.1 hk.2 v, h.ans.other (by omega) _, ?_, h.fld.other (Nat.lt_succ_self _) _ _, h.lo, h.bel.setCell (p := ⟨X, q.2, none⟩) (by show S ≤ X; omega) _⟩
  rw [Below.heap_setCell _ _ _ (S + 1) (by show S + 1 ≠ X; omega)]
  exact h.pcs
theorem RdSt.piece {l p : List UInt8} {w wr : World} {S X k : Nat} {fv : Value} {op : Int} {s : InsD} (h : RdSt l w S X fv op k s wr) {j : Nat} (hp : (spl 32 l)[j]? = some p) : wr.cell? ⟨S + 1, j, none⟩ = some (.string (bs p)) := by
  simp [World.cell?, h.pcs, txC, hp]
theorem RdSt.libs {l : List UInt8} {w wr : World} {S X k : Nat} {fv : Value} {op : Int} {s : InsD} {EP : Addr} (h : RdSt l w S X fv op k s wr) (hS : w.heap.size = S) (hL : Libs w EP) : Libs wr EP := hL.keep (by rw [hS]; exact h.bel)
def ReadRel (l : List UInt8) (w : World) (S X : Nat) (fv : Value) (op : Int) (iv : Value) (wr : World) : Prop := ∃ (k : Nat) (s : InsD), iv = .int .i64 k ∧ k ≤ (kindsX op).length ∧ RdSt l w S X fv op k s wr
theorem wp_skipsR {P : Program} {Q : Exit → Act → World → Prop} {o : Oper} {a : Act} {w w' : World} {K : Act → World → Prop} (h : (execOp a.eval o).run P w = .ok .skip w') (hk : K (a.put o.dst undef) w') : o.wp P a w K Q := by
  unfold Oper.wp
  simp only [h]
  exact hk
theorem run_storeStep {w : World} {S : Nat} {y0 y1 y2 y3 y4 : Int} (h : SBx w S y0 y1 y2 y3 y4) (k0 k1 k2 k3 k4 : Int) :
    (Instr.storeAt 36 (.pointer (some ⟨S, 0, none⟩)) (.agg #[.int .i64 k0, .int .i64 k1, .int .i64 k2, .int .i64 k3, .int .i64 k4])).run Tryz.prog w = .ok () (((((w.setCell ⟨S, 0, none⟩ (.int .i64 k0)).setCell ⟨S, 1, none⟩ (.int .i64 k1)).setCell ⟨S, 2, none⟩ (.int .i64 k2)).setCell ⟨S, 3, none⟩ (.int .i64 k3)).setCell ⟨S, 4, none⟩ (.int .i64 k4)) := by
  obtain ⟨a0, a1, a2, a3, a4⟩ := h.at
  have z0 := h.fz 0
  have z1 := h.fz 1
  have z2 := h.fz 2
  have z3 := h.fz 3
  have z4 := h.fz 4
  simp [Instr.storeAt, Instr.sureAddr, go_sem, a0, a1, a2, a3, a4, z0, z1, z2, z3, z4]
theorem run_storeOpR {P : Program} {o : Oper} {a : Act} {t : TypeId} {x y : Operand} {p v : Value} {w w' : World} (ho : o.op = .store t x y) (hx : a.eval x = p) (hy : a.eval y = v) (h : (Instr.storeAt t p v).run P w = .ok () w') : (execOp a.eval o).run P w = .ok .skip w' := by
  simp [execOp, ho, hx, hy, h, Result.andThen]
theorem results_lineV {fn : Func} {t u : Tmp} (h : fn.results = #[.cell t 36, .tmp u]) (tmps : Array Value) (w : World) {B : Nat} {x0 x1 x2 x3 x4 : Int} {ev : Value} (hp : tmps.getD t undef = .pointer (some ⟨B, 0, none⟩)) (hu : tmps.getD u undef = ev) (hb : SBx w B x0 x1 x2 x3 x4) : (results fn tmps).run Tryz.prog w = .ok (.tuple #[.agg #[.int .i64 x0, .int .i64 x1, .int .i64 x2, .int .i64 x3, .int .i64 x4], ev]) w := by
  have hp' : tmps[t]?.getD undef = .pointer (some ⟨B, 0, none⟩) := by simpa using hp
  have hu' : tmps[u]?.getD undef = ev := by simpa using hu
  obtain ⟨r0, r1, r2, r3, r4⟩ := hb.at
  simp [results, h, hp', hu', go_sem, r0, r1, r2, r3, r4]
def fiveC (w : World) (S : Nat) (k0 k1 k2 k3 k4 : Int) : World := ((((w.setCell ⟨S, 0, none⟩ (.int .i64 k0)).setCell ⟨S, 1, none⟩ (.int .i64 k1)).setCell ⟨S, 2, none⟩ (.int .i64 k2)).setCell ⟨S, 3, none⟩ (.int .i64 k3)).setCell ⟨S, 4, none⟩ (.int .i64 k4)
theorem read_no {EP : Addr} {l : List UInt8} {w wr : World} {S X k : Nat} {fv : Value} {op : Int} {s : InsD} (h : RdSt l w S X fv op k s wr) (hS : w.heap.size = S) (hno : ∀ y, ¬ IsLine l y) : GivesRead EP w l (.returned (.tuple #[.agg #[.int .i64 0, .int .i64 0, .int .i64 0, .int .i64 0, .int .i64 0], EV EP])) (fiveC wr S 0 0 0 0 0) :=
  ⟨⟨0, 0, 0, 0, 0⟩, EV EP, rfl, .inr ⟨rfl, hno⟩, by rw [hS]; exact below_fiveB h.bel (Nat.le_refl _) _ _ _ _ _⟩
theorem read_yes {EP : Addr} {l : List UInt8} {w wr : World} {S X k : Nat} {fv : Value} {op : Int} {s : InsD} {x0 x1 x2 x3 x4 : Int} (h : RdSt l w S X fv op k s wr) (hS : w.heap.size = S) (hy : IsLine l ⟨x0, x1, x2, x3, x4⟩) : GivesRead EP w l (.returned (.tuple #[.agg #[.int .i64 x0, .int .i64 x1, .int .i64 x2, .int .i64 x3, .int .i64 x4], .nilIface])) (fiveC wr S x0 x1 x2 x3 x4) :=
  ⟨⟨x0, x1, x2, x3, x4⟩, .nilIface, rfl, .inl ⟨rfl, hy⟩, by rw [hS]; exact below_fiveB h.bel (Nat.le_refl _) _ _ _ _ _⟩
theorem eno_five {EP : Addr} {l : List UInt8} {w wr : World} {S X k : Nat} {fv : Value} {op : Int} {s : InsD} (h : RdSt l w S X fv op k s wr) (hS : w.heap.size = S) (hL : Libs w EP) (k0 k1 k2 k3 k4 : Int) : (fiveC wr S k0 k1 k2 k3 k4).cell? ⟨0, 0, none⟩ = some (EV EP) := by
  have hb : Below S w (fiveC wr S k0 k1 k2 k3 k4) := below_fiveB h.bel (Nat.le_refl _) _ _ _ _ _
  generalize fiveC wr S k0 k1 k2 k3 k4 = W at hb ⊢
  rw [← hS] at hb
  exact Bel.keeps hb hL.eno
theorem spl_lenR {s : UInt8} : ∀ {l wd : List UInt8}, wd ∈ spl s l → wd.length ≤ l.length
  | [], wd, h => by simp [spl] at h; subst h; simp
  | c :: r, wd, h => by
    unfold spl at h
    split at h
    · rcases List.mem_cons.1 h with rfl | h
      · simp
      · exact Nat.le_succ_of_le (spl_lenR h)
    · split at h
      · rename_i p ps e
        have ih : ∀ q ∈ p :: ps, q.length ≤ r.length := fun q hq => spl_lenR (s := s) (by rw [e]; exact hq)
        rcases List.mem_cons.1 h with rfl | h
        · have := ih p List.mem_cons_self; simp; omega
        · have := ih wd (List.mem_cons_of_mem _ h); simp; omega
      · simp at h; subst h; simp
theorem pieces_len {l wd : List UInt8} {j : Nat} (hl : l.length ≤ 1048576) (h : (spl 32 l)[j]? = some wd) : wd.length ≤ 1048576 :=
  Nat.le_trans (spl_lenR (List.mem_of_getElem? h)) hl
theorem meas_rd {k m : Nat} (h : k < m) : m - (intOf (.int .i64 ((k : Int) + 1))).toNat < m - (intOf (.int .i64 (k : Int))).toNat := by simp [intOf]; omega
theorem wrap_up {k : Nat} (h : k ≤ 4) : IntKind.i64.wrap ((k : Int) + 1) = (k : Int) + 1 := by
  rw [IntKind.wrap_i64]
  omega
theorem eqI_false {a b : Int} (h : ¬ a = b) : (a == b) = false := by simpa using h
theorem lens_ne {N m : Nat} (h : ¬ N = 1 + m) : ((N : Int) != 1 + (m : Int)) = true := by rw [bne_iff_ne]; omega
theorem lens_eq {N m : Nat} (h : N = 1 + m) : ((N : Int) != 1 + (m : Int)) = false := by subst h; simp

set_option maxRecDepth 100000 in
set_option maxHeartbeats 4000000 in
theorem readStep_any (EP : Addr) (l : List UInt8) (w : World) (hl : l.length ≤ 1048576) (hL : Libs w EP) :
    Calls Tryz.prog 31 #[.string (bs l)] w fun e w' => GivesRead EP w l e w' := by
  have HLL : Hid (l.length ≤ 1048576) := hl
  have HL : Hid (Libs w EP) := hL
  clear hl hL
  obtain ⟨S, HS⟩ : ∃ S, Hid (w.heap.size = S) := ⟨_, rfl⟩
  obtain ⟨w0, hw0⟩ : ∃ W, w.alloc (.cells #[.int .i64 0, .int .i64 0, .int .i64 0, .int .i64 0, .int .i64 0] 36) = W := ⟨_, rfl⟩
  have HB0 : Hid (Below S w w0) := by show Below _ _ _; rw [← hw0, ← HS.out]; exact Bel.alloc _ _
  have HA0 : Hid (SBx w0 S 0 0 0 0 0) := by show SBx _ _ _ _ _ _ _; rw [← hw0, ← HS.out]; exact SBx.new w _ _ _ _ _
  have HZ0 : Hid (w0.heap.size = S + 1) := by show _ = _; rw [← hw0, ← HS.out]; simp
  have HL0 : Hid (Libs w0 EP) := HL.out.keep (by rw [HS.out]; exact HB0.out)
  go_enter Tryz.func31, Tryz.ntmps31
  go_wp2_with fail
  try rw [hw0]
  try rw [HS.out]
  clear hw0
  refine (split_any l _ HLL.out HL0.out).mono ?_
  rintro e w1 ⟨rfl, hw1⟩
  rw [HZ0.out]
  have HP1 : Hid (w1.heap[S + 1]? = some (.cells (txC (spl 32 l)).toArray 9 (0, 0))) := by show _ = _; rw [hw1, ← HZ0.out]; exact World.alloc_heap_new w0 _
  have hb1 : Below w0.heap.size w0 w1 := by rw [hw1]; exact Bel.alloc _ _
  have HZ1 : Hid (w1.heap.size = S + 2) := by show _ = _; rw [hw1]; simp [HZ0.out]
  have HB1 : Hid (Below S w w1) := HB0.out.trans (hb1.mono (by rw [HZ0.out]; omega))
  have HA1 : Hid (SBx w1 S 0 0 0 0 0) := HA0.out.keep hb1
  clear hb1 hw1
  obtain ⟨wd, hwd, hhd⟩ : ∃ wd, (spl 32 l)[0]? = some wd ∧ (spl 32 l).headD [] = wd := by
    cases h : spl 32 l with
    | nil => exact absurd h (spl_ne 32 l)
    | cons a r => exact ⟨a, rfl, rfl⟩
  have HHD : Hid ((spl 32 l).headD [] = wd) := hhd
  have c0 : w1.cell? ⟨S + 1, 0, none⟩ = some (.string (bs wd)) := by simp [World.cell?, HP1.out, txC, hwd]
  obtain ⟨N, HN⟩ : ∃ N, Hid ((spl 32 l).length = N) := ⟨_, rfl⟩
  have hN : (0 : Int) < (N : Int) := by rw [← HN.out]; exact Int.ofNat_lt.2 (List.length_pos_iff.2 (spl_ne 32 l))
  rw [HN.out]
  clear hwd hhd
  go_wp2_with fail
  refine (stepOpOf_any wd _ (HL.out.keep (by rw [HS.out]; exact HB1.out)).tabs).mono ?_
  rintro e w2 ⟨rfl, b2⟩
  obtain ⟨op, HOP⟩ : ∃ op : Int, Hid (((opOfL wd : Nat) : Int) = op) := ⟨_, rfl⟩
  rw [HOP.out]
  have HHO : Hid (((opOfL ((spl 32 l).headD []) : Nat) : Int) = op) := by show _ = _; rw [HHD.out]; exact HOP.out
  have HOR : Hid (-9223372036854775808 ≤ op ∧ op ≤ 9223372036854775807) := op_r HOP.out
  have HP2 : Hid (w2.heap[S + 1]? = some (.cells (txC (spl 32 l)).toArray 9 (0, 0))) := (b2.block _ (by rw [HZ1.out]; omega)).trans HP1.out
  have HB2 : Hid (Below S w w2) := HB1.out.trans (b2.mono (Nat.le_of_lt HA1.out.lt))
  have HA2 : Hid (SBx w2 S 0 0 0 0 0) := HA1.out.keep b2
  have HX2 : Hid (S + 1 < w2.heap.size) := by have h8 := b2.size; have h9 := HZ1.out; show _ < _; omega
  clear b2 c0
  obtain ⟨X, HX⟩ : ∃ X, Hid (w2.heap.size = X) := ⟨_, rfl⟩
  go_wp2_with fail
  obtain ⟨w3, hw3⟩ : ∃ W, w2.alloc (.cells #[.int .i64 op, .int .i64 0, .int .i64 0, .int .i64 0, .int .i64 0] 36) = W := ⟨_, rfl⟩
  have hb3 : Below w2.heap.size w2 w3 := by rw [← hw3]; exact Bel.alloc _ _
  have HZ3 : Hid (w3.heap.size = X + 1) := by show _ = _; rw [← hw3, ← HX.out]; simp
  have HQ3 : Hid (SB w3 X ⟨op, 0, 0, 0, 0⟩) := by show SBx _ _ _ _ _ _ _; rw [← hw3, ← HX.out]; exact SBx.new w2 _ _ _ _ _
  have HP3 : Hid (w3.heap[S + 1]? = some (.cells (txC (spl 32 l)).toArray 9 (0, 0))) := (hb3.block _ HX2.out).trans HP2.out
  have HB3 : Hid (Below S w w3) := HB2.out.trans (hb3.mono (Nat.le_of_lt HA2.out.lt))
  have HA3 : Hid (SBx w3 S 0 0 0 0 0) := HA2.out.keep hb3
  try rw [hw3]
  try rw [HX.out]
  clear hw3 hb3
  refine (fieldsOf_any op X _ HOR.out HQ3.out.at.1 (HL.out.keep (by rw [HS.out]; exact HB3.out)).tabs).mono ?_
  rintro e w4 ⟨fv, rfl, of4, b4⟩
  rw [HZ3.out] at of4
  have HST : Hid (RdSt l w S X fv op 0 ⟨op, 0, 0, 0, 0⟩ w4) := ⟨RS.start l op, HQ3.out.keep b4, HA3.out.keep b4, (b4.block _ (by have h8 := HX2.out; have h9 := HX.out; have h7 := HZ3.out; omega)).trans HP3.out, of4, (by have h8 := HX2.out; have h9 := HX.out; omega), HB3.out.trans (b4.mono (Nat.le_of_lt HA3.out.lt))⟩
  obtain ⟨fa, fc, rfl, _⟩ := of4.row
  clear of4 b4 HQ3 HP3 HB3 HA3 HP2 HB2 HA2 HP1 HB1 HA1 HB0 HA0 HL0
  obtain ⟨m, HM⟩ : ∃ m, Hid ((kindsX op).length = m) := ⟨_, rfl⟩
  rw [HM.out] at HST ⊢
  have hm4 : m ≤ 4 := by rw [← HM.out]; exact kinds_len _
  have hwm : wrap64 (1 + (m : Int)) = 1 + (m : Int) := by unfold wrap64; omega
  obtain ⟨d0, _⟩ := HST.out.box.at
  dsimp only at d0
  by_cases h0 : op = 0
  · have HNO : Hid (∀ y, ¬ IsLine l y) := line_noop HHO.out h0
    subst h0
    go_wp2_with fail
    have hEV := (HST.out.libs HS.out HL.out).eno
    refine wp_region_held_drew (S := fun w' => w'.cell? ⟨0, 0, none⟩ = some (EV EP)) (by kernel_rfl) hEV (fun hHeld => ?_)
    obtain ⟨u1, hu1⟩ : ∃ W, w4.drew = W := ⟨_, rfl⟩
    have HSD : Hid (RdSt l w S X (.slice fa m fc) 0 0 ⟨0, 0, 0, 0, 0⟩ u1) := by rw [← hu1]; exact HST.out.keep ((Below.refl _ w4).drew)
    rw [hu1] at hHeld ⊢
    clear hu1 hEV
    refine wpAnyH_take (i := 0) (oi := { dst := some 31, op := Go.Op.build 36 #[], type := 36, pos := "l17_text.go:137", after := #[], guard := none }) (v := ?_) rfl (by kernel_rfl) (by kernel_rfl) (by kernel_rfl) (fun _ _ _ h => h) (Or.inl ⟨by rfl, ?_⟩) (by assumption) ?_
    rotate_left
    · intro w hSw
      (try dsimp only at hSw)
      go_simp
      (try with_reducible rfl)
    try simp only [Act.put, List.setIfInBounds_toArray, List.set_cons_zero, List.set_cons_succ]
    refine wpAnyH_take (i := 1) (oi := { dst := some 32, op := Go.Op.load 41 (Go.Operand.global 0), type := 41, pos := "l17_text.go:137", after := #[{ on := 2, ground := Go.Ground.gcOnly Go.Departure.lateStores }], guard := none }) (v := ?_) rfl (by kernel_rfl) (by kernel_rfl) (by kernel_rfl) (fun _ _ _ h => h) (Or.inl ⟨by rfl, ?_⟩) (by assumption) ?_
    rotate_left
    · intro w hSw
      (try dsimp only at hSw)
      go_simp
      (try with_reducible rfl)
    try simp only [Act.put, List.setIfInBounds_toArray, List.set_cons_zero, List.set_cons_succ]
    refine ckAnyH_oneK (i := 2) (o := { dst := none, op := Go.Op.store 36 (Go.Operand.tmp 2) (Go.Operand.tmp 31), type := 0, pos := "l17_text.go:137", after := #[{ on := 0, ground := Go.Ground.data }, { on := 0, ground := Go.Ground.phase }, { on := 1, ground := Go.Ground.textOnly Go.Departure.lateStores }], guard := none }) rfl rfl (by kernel_rfl) (fun K9 hK9 => ?_)
    obtain ⟨u2, hu2⟩ : ∃ W, fiveC u1 S 0 0 0 0 0 = W := ⟨_, rfl⟩
    have hH3 := eno_five HSD.out HS.out HL.out 0 0 0 0 0
    have HFIN : Hid (GivesRead EP w l (.returned (.tuple #[.agg #[.int .i64 0, .int .i64 0, .int .i64 0, .int .i64 0, .int .i64 0], EV EP])) u2) := by show GivesRead _ _ _ _ _; rw [← hu2]; exact read_no HSD.out HS.out HNO.out
    have HS5 : Hid (SBx u2 S 0 0 0 0 0) := by show SBx _ _ _ _ _ _ _; rw [← hu2]; exact HSD.out.ans.five 0 0 0 0 0
    rw [hu2] at hH3
    refine wp_skipsR (w' := u2) (run_storeOpR (p := .pointer (some ⟨S, 0, none⟩)) (v := .agg #[.int .i64 0, .int .i64 0, .int .i64 0, .int .i64 0, .int .i64 0]) rfl (by rfl) (by rfl) (by rw [← hu2]; exact run_storeStep HSD.out.ans 0 0 0 0 0)) (hK9 _ _ ⟨hH3, ?_⟩)
    (try simp only [Act.put])
    clear hK9 hHeld hu2
    refine wpAnyH_take (i := 3) (oi := { dst := some 3, op := Go.Op.assign (Go.Operand.tmp 32), type := 41, pos := "l17_text.go:137", after := #[{ on := 1, ground := Go.Ground.data }, { on := 2, ground := Go.Ground.chain }, { on := 0, ground := Go.Ground.phase }, { on := 1, ground := Go.Ground.phase }, { on := 2, ground := Go.Ground.phase }], guard := none }) (v := ?_) rfl (by kernel_rfl) (by kernel_rfl) (by kernel_rfl) (fun _ _ _ h => h) (Or.inl ⟨by rfl, ?_⟩) (by assumption) ?_
    rotate_left
    · intro w hSw
      (try dsimp only at hSw)
      go_simp
      (try with_reducible rfl)
    try simp only [Act.put, List.setIfInBounds_toArray, List.set_cons_zero, List.set_cons_succ]
    refine wpAnyH_done (by kernel_rfl) ?_ _
    simp only [Exit.then]
    go_at_K
    go_wp2_with fail
    exact bodyPost_ret (results_lineV Tryz.results31 _ _ rfl rfl HS5.out) rfl HFIN.out
  · have e0 := eqI_false h0
    have H0 : Hid (¬ op = 0) := h0
    clear h0
    by_cases hlen : N = 1 + m
    · have elen := lens_eq hlen
      have HLEN : Hid (N = 1 + m) := hlen
      have hlenm : (m : Int) + 1 ≤ (N : Int) := by omega
      clear hlen
      go_wp2_with fail
      go_loopw [35] (fun iv wr => ReadRel l w S X (.slice fa m fc) op iv wr) (fun iv _ => m - (intOf iv).toNat)
      case atStart => exact ⟨0, _, rfl, Nat.zero_le _, HST.out⟩
      case round =>
        obtain ⟨k, ⟨s0, s1, s2, s3, s4⟩, rfl, hkm, hst⟩ := hrel
        rw [HM.out] at hkm
        have HR : Hid (RdSt l w S X (.slice fa m fc) op k ⟨s0, s1, s2, s3, s4⟩ wr) := hst
        clear hst HST
        by_cases hlt : (k : Int) < (m : Int)
        · have HKM : Hid (k < m) := Int.ofNat_lt.1 hlt
          obtain ⟨q, HQ⟩ : ∃ q, Hid ((kindsX op)[k]? = some q) := ⟨(kindsX op)[k]'(by rw [HM.out]; exact HKM.out), List.getElem?_eq_getElem _⟩
          obtain ⟨p, kk⟩ := q
          obtain ⟨pc, HPC⟩ : ∃ pc, Hid ((spl 32 l)[k + 1]? = some pc) := ⟨(spl 32 l)[k + 1]'(by rw [HN.out, HLEN.out]; have := HKM.out; omega), List.getElem?_eq_getElem _⟩
          have HKK : Hid (1 ≤ kk ∧ kk ≤ 4) := kinds_in (List.mem_of_getElem? HQ.out)
          obtain ⟨ga, gc, hga, hgr⟩ := HR.out.fld.row
          obtain ⟨g, hg1, hg2, hg3, hcell⟩ := hgr (by rw [HM.out]; exact Nat.lt_of_le_of_lt (Nat.zero_le _) HKM.out)
          have hfa : fa = some ⟨g, 0, none⟩ := by simp at hga; rw [hga.1]; exact hg1
          subst hfa
          obtain ⟨q0, q1⟩ := hcell k _ HQ.out
          dsimp only at q0 q1
          clear hga hgr hg1 hg2 hg3 hcell
          go_wp2_with fail
          obtain ⟨F9, HF9⟩ : ∃ F, Hid (wr.heap.size = F) := ⟨_, rfl⟩
          obtain ⟨w6, hw6⟩ : ∃ W, wr.alloc (.cells #[.int .i64 p, .pointer (some ⟨X, kk, none⟩)] 91) = W := ⟨_, rfl⟩
          have hal : Below wr.heap.size wr w6 := by rw [← hw6]; exact Bel.alloc _ _
          have hx6 : w6.heap[wr.heap.size]? = some (.cells #[.int .i64 p, .pointer (some ⟨X, kk, none⟩)] 91 (0, 0)) := by rw [← hw6]; exact World.alloc_heap_new _ _
          have HR6 : Hid (RdSt l w S X (.slice (some ⟨g, 0, none⟩) m fc) op k ⟨s0, s1, s2, s3, s4⟩ w6) := HR.out.keep hal
          rw [hw6]
          try rw [HF9.out]
          rw [HF9.out] at hx6
          have y0 : w6.cell? ⟨F9, 0, none⟩ = some (.int .i64 p) := by simp [World.cell?, hx6]
          have y1 : w6.cell? ⟨F9, 1, none⟩ = some (.pointer (some ⟨X, kk, none⟩)) := by simp [World.cell?, hx6]
          have y2 := HR6.out.piece HPC.out
          clear hw6 hal hx6 q0 q1 HR
          refine wp_region_held_drew (S := fun w' => w'.cell? ⟨F9, 0, none⟩ = some (.int .i64 p) ∧ w'.cell? ⟨F9, 1, none⟩ = some (.pointer (some ⟨X, kk, none⟩)) ∧ w'.cell? ⟨S + 1, k + 1, none⟩ = some (.string (bs pc))) (by kernel_rfl) ⟨y0, y1, y2⟩ (fun hHeld => ?_)
          obtain ⟨u1, hu1⟩ : ∃ W, w6.drew = W := ⟨_, rfl⟩
          have HR7 : Hid (RdSt l w S X (.slice (some ⟨g, 0, none⟩) m fc) op k ⟨s0, s1, s2, s3, s4⟩ u1) := by rw [← hu1]; exact HR6.out.keep ((Below.refl _ w6).drew)
          rw [hu1] at hHeld ⊢
          clear hu1 y0 y1 y2 HR6
          obtain ⟨lt, HLT⟩ : ∃ lt, Hid (letL p = lt) := ⟨_, rfl⟩
          have hwk : wrap64 ((k : Int) + 1) = (k : Int) + 1 := by unfold wrap64; omega
          have hwk2 : IntKind.i64.wrap ((k : Int) + 1) = (k : Int) + 1 := wrap_up (Nat.le_trans (Nat.le_of_lt HKM.out) hm4)
          have hk0 : (0 : Int) ≤ (k : Int) + 1 := by omega
          have hkN : (k : Int) + 1 < (N : Int) := by omega
          have hkt : ((k : Int) + 1).toNat = k + 1 := by omega
          refine wpAnyH_take (i := 0) (oi := { dst := some 40, op := Go.Op.move (Go.Operand.tmp 4), type := 47, pos := "l17_text.go:140", after := #[], guard := none }) (v := ?_) rfl (by kernel_rfl) (by kernel_rfl) (by kernel_rfl) (fun _ _ _ h => h) (Or.inl ⟨by rfl, ?_⟩) (by assumption) ?_
          rotate_left
          · intro w hSw
            (try dsimp only at hSw)
            go_simp
            (try with_reducible rfl)
          try simp only [Act.put, List.setIfInBounds_toArray, List.set_cons_zero, List.set_cons_succ]
          refine wpAnyH_take (i := 1) (oi := { dst := some 41, op := Go.Op.move (Go.Operand.tmp 7), type := 3, pos := "l17_text.go:140", after := #[], guard := none }) (v := ?_) rfl (by kernel_rfl) (by kernel_rfl) (by kernel_rfl) (fun _ _ _ h => h) (Or.inl ⟨by rfl, ?_⟩) (by assumption) ?_
          rotate_left
          · intro w hSw
            (try dsimp only at hSw)
            go_simp
            (try with_reducible rfl)
          try simp only [Act.put, List.setIfInBounds_toArray, List.set_cons_zero, List.set_cons_succ]
          refine wpAnyH_take (i := 2) (oi := { dst := some 42, op := Go.Op.binOp Go.BinOp.add 3 (Go.Operand.tmp 41) (Go.Operand.const (Go.Value.int Go.IntKind.i64 1)) 3, type := 3, pos := "l17_text.go:140", after := #[{ on := 1, ground := Go.Ground.data }], guard := none }) (v := ?_) rfl (by kernel_rfl) (by kernel_rfl) (by kernel_rfl) (fun _ _ _ h => h) (Or.inl ⟨by rfl, ?_⟩) (by assumption) ?_
          rotate_left
          · intro w hSw
            (try dsimp only at hSw)
            go_simp
            (try with_reducible rfl)
          try simp only [Act.put, List.setIfInBounds_toArray, List.set_cons_zero, List.set_cons_succ]
          refine wpAnyH_take (i := 3) (oi := { dst := some 43, op := Go.Op.indexAddr 47 (Go.Operand.tmp 40) (Go.Operand.tmp 42), type := 0, pos := "l17_text.go:140", after := #[{ on := 0, ground := Go.Ground.data }, { on := 2, ground := Go.Ground.data }], guard := none }) (v := ?_) rfl (by kernel_rfl) (by kernel_rfl) (by kernel_rfl) (fun _ _ _ h => h) (Or.inl ⟨by rfl, ?_⟩) (by assumption) ?_
          rotate_left
          · intro w hSw
            (try dsimp only at hSw)
            go_simp
            (try with_reducible rfl)
          try simp only [Act.put, List.setIfInBounds_toArray, List.set_cons_zero, List.set_cons_succ]
          refine wpAnyH_take (i := 4) (oi := { dst := some 44, op := Go.Op.load 9 (Go.Operand.tmp 43), type := 9, pos := "l17_text.go:140", after := #[{ on := 3, ground := Go.Ground.data }], guard := none }) (v := ?_) rfl (by kernel_rfl) (by kernel_rfl) (by kernel_rfl) (fun _ _ _ h => h) (Or.inl ⟨by rfl, ?_⟩) (by assumption) ?_
          rotate_left
          · intro w hSw
            (try dsimp only at hSw)
            go_simp
            (try with_reducible rfl)
          try simp only [Act.put, List.setIfInBounds_toArray, List.set_cons_zero, List.set_cons_succ]
          refine wpAnyH_take (i := 5) (oi := { dst := some 45, op := Go.Op.fieldAddr 91 (Go.Operand.tmp 8) 0, type := 0, pos := "l17_text.go:140", after := #[], guard := none }) (v := ?_) rfl (by kernel_rfl) (by kernel_rfl) (by kernel_rfl) (fun _ _ _ h => h) (Or.inl ⟨by rfl, ?_⟩) (by assumption) ?_
          rotate_left
          · intro w hSw
            (try dsimp only at hSw)
            go_simp
            (try with_reducible rfl)
          try simp only [Act.put, List.setIfInBounds_toArray, List.set_cons_zero, List.set_cons_succ]
          refine wpAnyH_take (i := 6) (oi := { dst := some 46, op := Go.Op.load 88 (Go.Operand.tmp 45), type := 88, pos := "l17_text.go:140", after := #[{ on := 5, ground := Go.Ground.data }], guard := none }) (v := ?_) rfl (by kernel_rfl) (by kernel_rfl) (by kernel_rfl) (fun _ _ _ h => h) (Or.inl ⟨by rfl, ?_⟩) (by assumption) ?_
          rotate_left
          · intro w hSw
            (try dsimp only at hSw)
            go_simp
            (try with_reducible rfl)
          try simp only [Act.put, List.setIfInBounds_toArray, List.set_cons_zero, List.set_cons_succ]
          refine ckAnyH_oneK (i := 7) (o := { dst := some 47, op := Go.Op.call { callee := Go.Callee.value (Go.Operand.func 51), args := #[Go.Operand.tmp 46], argTypes := #[88] }, type := 9, pos := "l17_text.go:140", after := #[{ on := 6, ground := Go.Ground.data }], guard := none }) rfl rfl (by kernel_rfl) (fun K9 hK9 => ?_)
          refine wp_call_of (f := 51) (args := #[.int .i64 p]) (by go_simp) (letter_any p _) ?_
          rintro e u2 ⟨rfl, hu2⟩
          subst hu2
          rw [HLT.out]
          refine ⟨_, rfl, hK9 _ _ ⟨hHeld, ?_⟩⟩
          (try simp only [Act.put, List.setIfInBounds_toArray, List.set_cons_zero, List.set_cons_succ])
          clear hK9
          refine ckAnyH_oneK (i := 8) (o := { dst := some 48, op := Go.Op.call { callee := Go.Callee.value (Go.Operand.func 50), args := #[Go.Operand.tmp 44, Go.Operand.tmp 47], argTypes := #[9, 9] }, type := 9, pos := "l17_text.go:140", after := #[{ on := 4, ground := Go.Ground.data }, { on := 7, ground := Go.Ground.data }, { on := 7, ground := Go.Ground.chain }], guard := none }) rfl rfl (by kernel_rfl) (fun K9 hK9 => ?_)
          refine wp_call_of (f := 50) (args := #[.string (bs pc), .string (bs lt)]) (by go_simp) (trim_any pc lt _) ?_
          rintro e u3 ⟨rfl, hu3⟩
          subst hu3
          refine ⟨_, rfl, hK9 _ _ ⟨hHeld, ?_⟩⟩
          (try simp only [Act.put, List.setIfInBounds_toArray, List.set_cons_zero, List.set_cons_succ])
          clear hK9
          refine wpAnyH_take (i := 9) (oi := { dst := some 9, op := Go.Op.assign (Go.Operand.tmp 48), type := 9, pos := "l17_text.go:140", after := #[{ on := 8, ground := Go.Ground.data }, { on := 8, ground := Go.Ground.chain }, { on := 0, ground := Go.Ground.phase }, { on := 1, ground := Go.Ground.phase }, { on := 2, ground := Go.Ground.phase }, { on := 3, ground := Go.Ground.phase }, { on := 4, ground := Go.Ground.phase }, { on := 5, ground := Go.Ground.phase }, { on := 6, ground := Go.Ground.phase }, { on := 7, ground := Go.Ground.phase }, { on := 8, ground := Go.Ground.phase }], guard := none }) (v := ?_) rfl (by kernel_rfl) (by kernel_rfl) (by kernel_rfl) (fun _ _ _ h => h) (Or.inl ⟨by rfl, ?_⟩) (by assumption) ?_
          rotate_left
          · intro w hSw
            (try dsimp only at hSw)
            go_simp
            (try with_reducible rfl)
          try simp only [Act.put, List.setIfInBounds_toArray, List.set_cons_zero, List.set_cons_succ]
          refine wpAnyH_done (by kernel_rfl) ?_ _
          simp only [Exit.then]
          go_at_K
          obtain ⟨dg, HDG⟩ : ∃ dg, Hid (Lib.trimPrefix pc lt = dg) := ⟨_, rfl⟩
          have HDL : Hid (dg.length ≤ 1048576) := by
            show _ ≤ _
            rw [← HDG.out]
            exact Nat.le_trans (Lib.trimPrefix_le _ _) (pieces_len HLL.out HPC.out)
          rw [HDG.out]
          obtain ⟨h0, h1, _⟩ := hHeld
          go_wp2_with fail
          refine (atoi_any dg _ HDL.out (HR7.out.libs HS.out HL.out)).mono ?_
          rintro e u4 ⟨v, ev, rfl, hres, b4⟩
          have HR8 : Hid (RdSt l w S X (.slice (some ⟨g, 0, none⟩) m fc) op k ⟨s0, s1, s2, s3, s4⟩ u4) := HR7.out.keep b4
          replace h1 := Bel.keeps b4 h1
          clear b4 h0 HR7
          rcases hres with ⟨rfl, hok⟩ | ⟨⟨tp, pp, rfl⟩, hbad⟩
          · have HOK : Hid (Lib.atoiAll (Lib.trimPrefix pc (letL p)) = .ok v) := by show _ = _; rw [HLT.out, HDG.out]; exact hok
            clear hok
            obtain ⟨x1, x2⟩ := HR8.out.box.cell HKK.out.1 HKK.out.2
            go_wp2_with fail
            try rw [hwk]
            go_roundw
            case rel => exact ⟨k + 1, _, num_up k, by rw [HM.out]; exact HKM.out, HR8.out.put HHO.out HQ.out HPC.out HOK.out⟩
            case measure => exact meas_rd HKM.out
          · have HNO : Hid (∀ y, ¬ IsLine l y) := RS.bad HHO.out HQ.out HPC.out (by rw [HLT.out, HDG.out]; exact hbad)
            clear hbad
            go_wp2_with fail
            have hEV := (HR8.out.libs HS.out HL.out).eno
            refine wp_region_held_drew (S := fun w' => w'.cell? ⟨0, 0, none⟩ = some (EV EP)) (by kernel_rfl) hEV (fun hHeld => ?_)
            obtain ⟨u1, hu1⟩ : ∃ W, u4.drew = W := ⟨_, rfl⟩
            have HSD : Hid (RdSt l w S X (.slice (some ⟨g, 0, none⟩) m fc) op k ⟨s0, s1, s2, s3, s4⟩ u1) := by rw [← hu1]; exact HR8.out.keep ((Below.refl _ u4).drew)
            rw [hu1] at hHeld ⊢
            clear hu1 hEV
            refine wpAnyH_take (i := 0) (oi := { dst := some 56, op := Go.Op.build 36 #[], type := 36, pos := "l17_text.go:143", after := #[], guard := none }) (v := ?_) rfl (by kernel_rfl) (by kernel_rfl) (by kernel_rfl) (fun _ _ _ h => h) (Or.inl ⟨by rfl, ?_⟩) (by assumption) ?_
            rotate_left
            · intro w hSw
              (try dsimp only at hSw)
              go_simp
              (try with_reducible rfl)
            try simp only [Act.put, List.setIfInBounds_toArray, List.set_cons_zero, List.set_cons_succ]
            refine wpAnyH_take (i := 1) (oi := { dst := some 57, op := Go.Op.load 41 (Go.Operand.global 0), type := 41, pos := "l17_text.go:143", after := #[{ on := 2, ground := Go.Ground.gcOnly Go.Departure.lateStores }], guard := none }) (v := ?_) rfl (by kernel_rfl) (by kernel_rfl) (by kernel_rfl) (fun _ _ _ h => h) (Or.inl ⟨by rfl, ?_⟩) (by assumption) ?_
            rotate_left
            · intro w hSw
              (try dsimp only at hSw)
              go_simp
              (try with_reducible rfl)
            try simp only [Act.put, List.setIfInBounds_toArray, List.set_cons_zero, List.set_cons_succ]
            refine ckAnyH_oneK (i := 2) (o := { dst := none, op := Go.Op.store 36 (Go.Operand.tmp 2) (Go.Operand.tmp 56), type := 0, pos := "l17_text.go:143", after := #[{ on := 0, ground := Go.Ground.data }, { on := 0, ground := Go.Ground.phase }, { on := 1, ground := Go.Ground.textOnly Go.Departure.lateStores }], guard := none }) rfl rfl (by kernel_rfl) (fun K9 hK9 => ?_)
            obtain ⟨u2, hu2⟩ : ∃ W, fiveC u1 S 0 0 0 0 0 = W := ⟨_, rfl⟩
            have hH3 := eno_five HSD.out HS.out HL.out 0 0 0 0 0
            have HFIN : Hid (GivesRead EP w l (.returned (.tuple #[.agg #[.int .i64 0, .int .i64 0, .int .i64 0, .int .i64 0, .int .i64 0], EV EP])) u2) := by show GivesRead _ _ _ _ _; rw [← hu2]; exact read_no HSD.out HS.out HNO.out
            have HS5 : Hid (SBx u2 S 0 0 0 0 0) := by show SBx _ _ _ _ _ _ _; rw [← hu2]; exact HSD.out.ans.five 0 0 0 0 0
            rw [hu2] at hH3
            refine wp_skipsR (w' := u2) (run_storeOpR (p := .pointer (some ⟨S, 0, none⟩)) (v := .agg #[.int .i64 0, .int .i64 0, .int .i64 0, .int .i64 0, .int .i64 0]) rfl (by rfl) (by rfl) (by rw [← hu2]; exact run_storeStep HSD.out.ans 0 0 0 0 0)) (hK9 _ _ ⟨hH3, ?_⟩)
            (try simp only [Act.put])
            clear hK9 hHeld hu2
            refine wpAnyH_take (i := 3) (oi := { dst := some 3, op := Go.Op.assign (Go.Operand.tmp 57), type := 41, pos := "l17_text.go:143", after := #[{ on := 1, ground := Go.Ground.data }, { on := 2, ground := Go.Ground.chain }, { on := 0, ground := Go.Ground.phase }, { on := 1, ground := Go.Ground.phase }, { on := 2, ground := Go.Ground.phase }], guard := none }) (v := ?_) rfl (by kernel_rfl) (by kernel_rfl) (by kernel_rfl) (fun _ _ _ h => h) (Or.inl ⟨by rfl, ?_⟩) (by assumption) ?_
            rotate_left
            · intro w hSw
              (try dsimp only at hSw)
              go_simp
              (try with_reducible rfl)
            try simp only [Act.put, List.setIfInBounds_toArray, List.set_cons_zero, List.set_cons_succ]
            refine wpAnyH_done (by kernel_rfl) ?_ _
            simp only [Exit.then]
            go_at_K
            go_wp2_with fail
            exact bodyPost_ret (results_lineV Tryz.results31 _ _ rfl rfl HS5.out) rfl HFIN.out
        · have hkme : k = m := by omega
          subst hkme
          obtain ⟨d0, d1, d2, d3, d4⟩ := HR.out.box.at
          dsimp only at d0 d1 d2 d3 d4
          have hRR := HR.out.rs
          have HRS : Hid (RS l op k ⟨s0, s1, s2, s3, s4⟩) := hRR
          have HNR : Hid (-9223372036854775808 ≤ s4 ∧ s4 ≤ 9223372036854775807) := hRR.n
          have hse : s0 = op := hRR.ope
          subst hse
          clear hRR
          go_wp2_with fail
          refine (impl_stepText _ _ _ _ _ _ HOR.out HNR.out (HR.out.libs HS.out HL.out).tabs).mono ?_
          rintro e w5 ⟨rfl, b5⟩
          have HR5 : Hid (RdSt l w S X (.slice fa k fc) s0 k ⟨s0, s1, s2, s3, s4⟩ w5) := HR.out.keep b5
          clear b5 d0 d1 d2 d3 d4
          obtain ⟨T, HT⟩ : ∃ T, Hid (textX ⟨s0, s1, s2, s3, s4⟩ = T) := ⟨_, rfl⟩
          rw [HT.out]
          by_cases htl : T = l
          · have heq := eqs_yes htl
            have HY : Hid (IsLine l ⟨s0, s1, s2, s3, s4⟩) := HRS.out.yes H0.out HHO.out (by rw [HT.out]; exact htl)
            clear htl
            obtain ⟨d0, d1, d2, d3, d4⟩ := HR5.out.box.at
            obtain ⟨a0, a1, a2, a3, a4⟩ := HR5.out.ans.at
            dsimp only at d0 d1 d2 d3 d4
            have z0 := HR5.out.ans.fz 0
            have z1 := HR5.out.ans.fz 1
            have z2 := HR5.out.ans.fz 2
            have z3 := HR5.out.ans.fz 3
            have z4 := HR5.out.ans.fz 4
            go_wp2_with fail
            exact bodyPost_ret (v := .tuple #[.agg #[.int .i64 s0, .int .i64 s1, .int .i64 s2, .int .i64 s3, .int .i64 s4], .nilIface]) (results_lineV Tryz.results31 _ _ rfl rfl (HR5.out.ans.five s0 s1 s2 s3 s4)) rfl (read_yes HR5.out HS.out HY.out)
          · have hne := eqs_no htl
            have HNO : Hid (∀ y, ¬ IsLine l y) := HRS.out.no HM.out.symm HHO.out (by rw [HT.out]; exact htl)
            clear htl
            go_wp2_with fail
            have hEV := (HR5.out.libs HS.out HL.out).eno
            refine wp_region_held_drew (S := fun w' => w'.cell? ⟨0, 0, none⟩ = some (EV EP)) (by kernel_rfl) hEV (fun hHeld => ?_)
            obtain ⟨u1, hu1⟩ : ∃ W, w5.drew = W := ⟨_, rfl⟩
            have HSD : Hid (RdSt l w S X (.slice fa k fc) s0 k ⟨s0, s1, s2, s3, s4⟩ u1) := by rw [← hu1]; exact HR5.out.keep ((Below.refl _ w5).drew)
            rw [hu1] at hHeld ⊢
            clear hu1 hEV
            refine wpAnyH_take (i := 0) (oi := { dst := some 67, op := Go.Op.build 36 #[], type := 36, pos := "l17_text.go:149", after := #[], guard := none }) (v := ?_) rfl (by kernel_rfl) (by kernel_rfl) (by kernel_rfl) (fun _ _ _ h => h) (Or.inl ⟨by rfl, ?_⟩) (by assumption) ?_
            rotate_left
            · intro w hSw
              (try dsimp only at hSw)
              go_simp
              (try with_reducible rfl)
            try simp only [Act.put, List.setIfInBounds_toArray, List.set_cons_zero, List.set_cons_succ]
            refine wpAnyH_take (i := 1) (oi := { dst := some 68, op := Go.Op.load 41 (Go.Operand.global 0), type := 41, pos := "l17_text.go:149", after := #[{ on := 2, ground := Go.Ground.gcOnly Go.Departure.lateStores }], guard := none }) (v := ?_) rfl (by kernel_rfl) (by kernel_rfl) (by kernel_rfl) (fun _ _ _ h => h) (Or.inl ⟨by rfl, ?_⟩) (by assumption) ?_
            rotate_left
            · intro w hSw
              (try dsimp only at hSw)
              go_simp
              (try with_reducible rfl)
            try simp only [Act.put, List.setIfInBounds_toArray, List.set_cons_zero, List.set_cons_succ]
            refine ckAnyH_oneK (i := 2) (o := { dst := none, op := Go.Op.store 36 (Go.Operand.tmp 2) (Go.Operand.tmp 67), type := 0, pos := "l17_text.go:149", after := #[{ on := 0, ground := Go.Ground.data }, { on := 0, ground := Go.Ground.phase }, { on := 1, ground := Go.Ground.textOnly Go.Departure.lateStores }], guard := none }) rfl rfl (by kernel_rfl) (fun K9 hK9 => ?_)
            obtain ⟨u2, hu2⟩ : ∃ W, fiveC u1 S 0 0 0 0 0 = W := ⟨_, rfl⟩
            have hH3 := eno_five HSD.out HS.out HL.out 0 0 0 0 0
            have HFIN : Hid (GivesRead EP w l (.returned (.tuple #[.agg #[.int .i64 0, .int .i64 0, .int .i64 0, .int .i64 0, .int .i64 0], EV EP])) u2) := by show GivesRead _ _ _ _ _; rw [← hu2]; exact read_no HSD.out HS.out HNO.out
            have HS5 : Hid (SBx u2 S 0 0 0 0 0) := by show SBx _ _ _ _ _ _ _; rw [← hu2]; exact HSD.out.ans.five 0 0 0 0 0
            rw [hu2] at hH3
            refine wp_skipsR (w' := u2) (run_storeOpR (p := .pointer (some ⟨S, 0, none⟩)) (v := .agg #[.int .i64 0, .int .i64 0, .int .i64 0, .int .i64 0, .int .i64 0]) rfl (by rfl) (by rfl) (by rw [← hu2]; exact run_storeStep HSD.out.ans 0 0 0 0 0)) (hK9 _ _ ⟨hH3, ?_⟩)
            (try simp only [Act.put])
            clear hK9 hHeld hu2
            refine wpAnyH_take (i := 3) (oi := { dst := some 3, op := Go.Op.assign (Go.Operand.tmp 68), type := 41, pos := "l17_text.go:149", after := #[{ on := 1, ground := Go.Ground.data }, { on := 2, ground := Go.Ground.chain }, { on := 0, ground := Go.Ground.phase }, { on := 1, ground := Go.Ground.phase }, { on := 2, ground := Go.Ground.phase }], guard := none }) (v := ?_) rfl (by kernel_rfl) (by kernel_rfl) (by kernel_rfl) (fun _ _ _ h => h) (Or.inl ⟨by rfl, ?_⟩) (by assumption) ?_
            rotate_left
            · intro w hSw
              (try dsimp only at hSw)
              go_simp
              (try with_reducible rfl)
            try simp only [Act.put, List.setIfInBounds_toArray, List.set_cons_zero, List.set_cons_succ]
            refine wpAnyH_done (by kernel_rfl) ?_ _
            simp only [Exit.then]
            go_at_K
            go_wp2_with fail
            exact bodyPost_ret (results_lineV Tryz.results31 _ _ rfl rfl HS5.out) rfl HFIN.out
    · have elen := lens_ne hlen
      have HNO : Hid (∀ y, ¬ IsLine l y) := line_nolen HHO.out (by rw [HN.out, HM.out]; exact hlen)
      clear hlen
      go_wp2_with fail
      have hEV := (HST.out.libs HS.out HL.out).eno
      refine wp_region_held_drew (S := fun w' => w'.cell? ⟨0, 0, none⟩ = some (EV EP)) (by kernel_rfl) hEV (fun hHeld => ?_)
      obtain ⟨u1, hu1⟩ : ∃ W, w4.drew = W := ⟨_, rfl⟩
      have HSD : Hid (RdSt l w S X (.slice fa m fc) op 0 ⟨op, 0, 0, 0, 0⟩ u1) := by rw [← hu1]; exact HST.out.keep ((Below.refl _ w4).drew)
      rw [hu1] at hHeld ⊢
      clear hu1 hEV
      refine wpAnyH_take (i := 0) (oi := { dst := some 31, op := Go.Op.build 36 #[], type := 36, pos := "l17_text.go:137", after := #[], guard := none }) (v := ?_) rfl (by kernel_rfl) (by kernel_rfl) (by kernel_rfl) (fun _ _ _ h => h) (Or.inl ⟨by rfl, ?_⟩) (by assumption) ?_
      rotate_left
      · intro w hSw
        (try dsimp only at hSw)
        go_simp
        (try with_reducible rfl)
      try simp only [Act.put, List.setIfInBounds_toArray, List.set_cons_zero, List.set_cons_succ]
      refine wpAnyH_take (i := 1) (oi := { dst := some 32, op := Go.Op.load 41 (Go.Operand.global 0), type := 41, pos := "l17_text.go:137", after := #[{ on := 2, ground := Go.Ground.gcOnly Go.Departure.lateStores }], guard := none }) (v := ?_) rfl (by kernel_rfl) (by kernel_rfl) (by kernel_rfl) (fun _ _ _ h => h) (Or.inl ⟨by rfl, ?_⟩) (by assumption) ?_
      rotate_left
      · intro w hSw
        (try dsimp only at hSw)
        go_simp
        (try with_reducible rfl)
      try simp only [Act.put, List.setIfInBounds_toArray, List.set_cons_zero, List.set_cons_succ]
      refine ckAnyH_oneK (i := 2) (o := { dst := none, op := Go.Op.store 36 (Go.Operand.tmp 2) (Go.Operand.tmp 31), type := 0, pos := "l17_text.go:137", after := #[{ on := 0, ground := Go.Ground.data }, { on := 0, ground := Go.Ground.phase }, { on := 1, ground := Go.Ground.textOnly Go.Departure.lateStores }], guard := none }) rfl rfl (by kernel_rfl) (fun K9 hK9 => ?_)
      obtain ⟨u2, hu2⟩ : ∃ W, fiveC u1 S 0 0 0 0 0 = W := ⟨_, rfl⟩
      have hH3 := eno_five HSD.out HS.out HL.out 0 0 0 0 0
      have HFIN : Hid (GivesRead EP w l (.returned (.tuple #[.agg #[.int .i64 0, .int .i64 0, .int .i64 0, .int .i64 0, .int .i64 0], EV EP])) u2) := by show GivesRead _ _ _ _ _; rw [← hu2]; exact read_no HSD.out HS.out HNO.out
      have HS5 : Hid (SBx u2 S 0 0 0 0 0) := by show SBx _ _ _ _ _ _ _; rw [← hu2]; exact HSD.out.ans.five 0 0 0 0 0
      rw [hu2] at hH3
      refine wp_skipsR (w' := u2) (run_storeOpR (p := .pointer (some ⟨S, 0, none⟩)) (v := .agg #[.int .i64 0, .int .i64 0, .int .i64 0, .int .i64 0, .int .i64 0]) rfl (by rfl) (by rfl) (by rw [← hu2]; exact run_storeStep HSD.out.ans 0 0 0 0 0)) (hK9 _ _ ⟨hH3, ?_⟩)
      (try simp only [Act.put])
      clear hK9 hHeld hu2
      refine wpAnyH_take (i := 3) (oi := { dst := some 3, op := Go.Op.assign (Go.Operand.tmp 32), type := 41, pos := "l17_text.go:137", after := #[{ on := 1, ground := Go.Ground.data }, { on := 2, ground := Go.Ground.chain }, { on := 0, ground := Go.Ground.phase }, { on := 1, ground := Go.Ground.phase }, { on := 2, ground := Go.Ground.phase }], guard := none }) (v := ?_) rfl (by kernel_rfl) (by kernel_rfl) (by kernel_rfl) (fun _ _ _ h => h) (Or.inl ⟨by rfl, ?_⟩) (by assumption) ?_
      rotate_left
      · intro w hSw
        (try dsimp only at hSw)
        go_simp
        (try with_reducible rfl)
      try simp only [Act.put, List.setIfInBounds_toArray, List.set_cons_zero, List.set_cons_succ]
      refine wpAnyH_done (by kernel_rfl) ?_ _
      simp only [Exit.then]
      go_at_K
      go_wp2_with fail
      exact bodyPost_ret (results_lineV Tryz.results31 _ _ rfl rfl HS5.out) rfl HFIN.out
end Go.Proofs.YtjcocpdicogecaaGreatDoor
