/- Bytes in memory: lists of the call's own, lists that are read. -/
import Derived.Test.YtgjojajodkagbaaPkDef
import Derived.Test.YtgjojajodkagbaaOwn
import Derived.Lib.UnsafeStr
import Derived.Maps.AppendAt
import Derived.Laws.OwnMore
import Derived.Laws.BitsLemmas
namespace Go.Proofs.Ytgjojajodkagbaa
open Go.ChangeShapes Go.WideShapes Go.ChangeAt Go.RowKit
set_option linter.unusedVariables false

/-- A list of bytes in memory of the call's own, in blocks from lo on. -/
def OwnB (w : World) (lo : Nat) (v : Value) (l : List UInt8) : Prop := w.ownsRow lo 5 1 v l.length (Lib.byteCells l)
/-- A slice that reads as the bytes l. -/
def BytesAt (w : World) (v : Value) (l : List UInt8) : Prop :=
  ∃ (a : Option Addr) (cap : Nat), v = .slice a l.length cap ∧ l.length ≤ maxLen ∧ (0 < l.length → l.length ≤ cap ∧ ∃ b off, a = some ⟨b, off, none⟩ ∧ ∀ i, i < l.length → w.cell? ⟨b, off + i, none⟩ = some (.int .u8 ((l.getD i 0).toNat : Nat)))
theorem BytesAt.keep {w w' : World} {v : Value} {l : List UInt8} (h : BytesAt w v l) (hb : Below w.heap.size w w') : BytesAt w' v l := by
  obtain ⟨a, cap, rfl, hm, hc⟩ := h
  refine ⟨a, cap, rfl, hm, fun hp => ?_⟩
  obtain ⟨hcap, b, off, rfl, hd⟩ := hc hp
  exact ⟨hcap, b, off, rfl, fun i hi => Bel.keeps hb (hd i hi)⟩
theorem OwnB.small {w : World} {lo : Nat} {v : Value} {l : List UInt8} (h : OwnB w lo v l) : l.length ≤ maxLen := by
  rcases h.2 with ⟨_, h0⟩ | ⟨g, cap, cur, _, _, _, h1, h2, _⟩
  · rw [h0]; exact Nat.zero_le _
  · omega
theorem OwnB.row {w : World} {lo : Nat} {v : Value} {l : List UInt8} (h : OwnB w lo v l) :
    ∃ a cap, v = .slice a l.length cap ∧ (0 < l.length → l.length ≤ cap ∧ ∃ g, a = some ⟨g, 0, none⟩ ∧ lo ≤ g ∧ g < w.heap.size ∧ (∀ i, i < l.length → w.cell? ⟨g, i, none⟩ = some (.int .u8 ((l.getD i 0).toNat : Nat))) ∧ ∀ i, w.frozen? ⟨g, i, none⟩ = false) := by
  rcases h.2 with ⟨rfl, h0⟩ | ⟨g, cap, cur, rfl, hlo, hg, h1, h2, h3, h4⟩
  · exact ⟨none, 0, by rw [h0], fun hp => absurd hp (by omega)⟩
  · refine ⟨_, cap, rfl, fun hp => ⟨by omega, g, rfl, hlo, (Array.getElem?_eq_some_iff.1 hg).1, fun i hi => ?_, fun i => ?_⟩⟩
    · have hs : i < cur.size := by omega
      have e : cur[i]? = some (.int .u8 ((l.getD i 0).toNat : Nat)) := by
        have e1 : (cur.toList.take (l.length * 1))[i]? = cur[i]? := by rw [List.getElem?_take]; simp [hi]
        rw [← e1, h4, Lib.byteCells, List.getElem?_map]
        simp [List.getD, hi]
      simp [World.cell?, hg, e]
    · simp [World.frozen?, hg]
theorem OwnB.form {w : World} {lo : Nat} {v : Value} {l : List UInt8} (h : OwnB w lo v l) {n : Nat} (hn : l.length = n) : ∃ a cap, v = .slice a n cap := by
  obtain ⟨a, cap, e, _⟩ := h.row
  exact ⟨a, cap, by rw [e, hn]⟩
theorem OwnB.at {w : World} {lo : Nat} {v : Value} {l : List UInt8} (h : OwnB w lo v l) : BytesAt w v l := by
  have hs := h.small
  obtain ⟨a, cap, rfl, hc⟩ := h.row
  refine ⟨a, cap, rfl, hs, fun hp => ?_⟩
  obtain ⟨hcap, g, rfl, _, _, hd, _⟩ := hc hp
  exact ⟨hcap, g, 0, rfl, fun i hi => by simpa using hd i hi⟩
theorem OwnB.keep {w w' : World} {lo : Nat} {v : Value} {l : List UInt8} (h : OwnB w lo v l) (hb : Below w.heap.size w w') : OwnB w' lo v l := ownsRow_later h hb
theorem OwnB.low {w : World} {lo lo' : Nat} {v : Value} {l : List UInt8} (h : OwnB w lo v l) (hl : lo' ≤ lo) : OwnB w lo' v l := ownsRow_low h hl
theorem OwnB.lt {w : World} {lo : Nat} {v : Value} {l : List UInt8} (h : OwnB w lo v l) : ∀ g, v.ownBlock = some g → lo ≤ g ∧ g < w.heap.size := World.ownsRow.lt h
theorem OwnB.nil (w : World) (lo : Nat) : OwnB w lo (.slice none 0 0) [] := ⟨rfl, .inl ⟨rfl, rfl⟩⟩
theorem ownB_new (w : World) (lo : Nat) (hlo : lo ≤ w.heap.size) : OwnB (w.alloc (.cells #[] 5)) lo (.slice (some ⟨w.heap.size, 0, none⟩) 0 0) [] :=
  ⟨rfl, .inr ⟨w.heap.size, 0, #[], rfl, hlo, World.alloc_heap_new w _, Nat.le_refl _, Nat.zero_le _, rfl, rfl⟩⟩
/-- A list of bytes is given, in new memory. -/
def GivesB (w : World) (l : List UInt8) (e : Ending) (w' : World) : Prop := ∃ v, e = .returned v ∧ OwnB w' w.heap.size v l ∧ Below w.heap.size w w'
theorem info_partsB {o : Option TypeInfo} {z : Value} {s b : Nat} (h : o.map (fun i => (i.zero, i.size, i.bytes)) = some (some z, s, b)) : ∃ i, o = some i ∧ i.zero = some z ∧ i.size = s ∧ i.bytes = b := by
  obtain ⟨i, hi, e⟩ := Option.map_eq_some_iff.1 h
  simp at e
  exact ⟨i, hi, e.1, e.2.1, e.2.2⟩
theorem byte_info : (Try.prog.info? 5).map (fun i => (i.zero, i.size, i.bytes)) = some (some (.int .u8 0), 1, 1) := by kernel_rfl
theorem byte_one (c : UInt8) : Lib.byteCells [c] = [.int .u8 (c.toNat : Nat)] := rfl
theorem bytes_one (l : List UInt8) : ∀ u ∈ Lib.byteCells l, u.oneCell' = true := fun u hu => by
  unfold Lib.byteCells at hu
  obtain ⟨x, _, rfl⟩ := List.mem_map.1 hu
  rfl
/-- A byte is put behind a list of the call's own: the state behind it. -/
theorem OwnB.snoc {w w' : World} {lo : Nat} {v v' : Value} {l : List UInt8} {c : UInt8} (h : w'.ownsRow lo 5 1 v' (l.length + 1) (Lib.byteCells l ++ [.int .u8 (c.toNat : Nat)])) : OwnB w' lo v' (l ++ [c]) := by
  unfold OwnB
  rw [Lib.byteCells_append, List.length_append]
  exact h
theorem OwnB.app {w' : World} {lo : Nat} {v' : Value} {l m : List UInt8} (h : w'.ownsRow lo 5 1 v' (l.length + m.length) (Lib.byteCells l ++ Lib.byteCells m)) : OwnB w' lo v' (l ++ m) := by
  unfold OwnB
  rw [Lib.byteCells_append, List.length_append]
  exact h
theorem BytesAt.cells {w : World} {b off n cap : Nat} {l : List UInt8} (h : BytesAt w (.slice (some ⟨b, off, none⟩) n cap) l) : ∀ j u, (Lib.byteCells l)[j]? = some u → w.cell? ((⟨b, off, none⟩ : Addr).add j) = some u := fun j u hu => by
  obtain ⟨a, c, e, _, hc⟩ := h
  unfold Lib.byteCells at hu
  rw [List.getElem?_map] at hu
  obtain ⟨x, hx, rfl⟩ := Option.map_eq_some_iff.1 hu
  have hj := (List.getElem?_eq_some_iff.1 hx).1
  obtain ⟨_, b', off', e2, hd⟩ := hc (by omega)
  simp at e
  rw [← e.1] at e2
  simp at e2
  obtain ⟨rfl, rfl⟩ := e2
  have := hd j hj
  simp [List.getD, hx] at this
  have e9 : (⟨b, off, none⟩ : Addr).add j = ⟨b, off + j, none⟩ := by
    unfold Addr.add
    split
    · rename_i h0; subst h0; rfl
    · rfl
  rw [e9]
  exact this
theorem ownsRow_underB {w w1 : World} {lo : Nat} {t : TypeId} {s n : Nat} {v : Value} {xs : List Value} (h : w.ownsRow lo t s v n xs) (hlo : lo ≤ w.heap.size) (hg : w.grownBy w1 v.ownBlock) : Below lo w w1 :=
  (Below.refl lo w).grown hg hlo (fun k hk => (World.ownsRow.lt h k hk).1)
/-- A byte is put behind a list of the call's own. -/
theorem add_byte (lo : Nat) (v : Value) (l : List UInt8) (c : UInt8) (z : Int) (w : World) (hz : z = ((c.toNat : Nat) : Int)) (hv : OwnB w lo v l) (hlo : lo ≤ w.heap.size) (hn : l.length ≤ 1000000) :
    ∃ v' w', (∀ ty, (Builtin.append_ #[22, 22] ty #[v, .slice (some ⟨w.heap.size, 0, none⟩) 1 1]).run Try.prog (w.alloc (.cells #[.int .u8 z] 5)) = .ok v' w') ∧ OwnB w' lo v' (l ++ [c]) ∧ Below lo w w' ∧ w.heap.size ≤ w'.heap.size ∧ (∀ g, g < w.heap.size → v.ownBlock ≠ some g → w'.heap[g]? = w.heap[g]? ∧ v'.ownBlock ≠ some g) := by
  obtain ⟨i0, hi, hz0, hz1, hz2⟩ := info_partsB byte_info
  subst hz
  have ha := Bel.alloc w (.cells #[.int .u8 ((c.toNat : Nat) : Int)] 5)
  have hv1 : (w.alloc (.cells #[.int .u8 ((c.toNat : Nat) : Int)] 5)).ownsRow lo 5 1 v l.length (Lib.byteCells l) := World.ownsRow.alloc hv _
  have hmx : 2000000 ≤ maxLen := by decide
  have key := fun ty => run_append_own_at (P := Try.prog) (w.alloc (.cells #[.int .u8 ((c.toNat : Nat) : Int)] 5)) lo 22 ty 5 i0 (.int .u8 0) 1 1 Try.underlying22 hi hz0 hz1 hz2 rfl (by decide) v l.length (Lib.byteCells l) hv1 ⟨w.heap.size, 0, none⟩ 1 1 [.int .u8 ((c.toNat : Nat) : Int)] rfl (fun j u hj => by
    match j, hj with
    | 0, hj => simp at hj; subst hj; simp [Addr.add]) (by simp [Value.oneCell']) (by omega) (by omega) (by have := ha.size; omega)
  obtain ⟨v', w', hrun, ho, hgr, _, hob⟩ := key 22
  have hb := ownsRow_underB hv1 (by have := ha.size; omega) hgr
  refine ⟨v', w', fun ty => hrun, OwnB.snoc (w := w) (v := v) ho, (ha.mono hlo).trans hb, Nat.le_trans ha.size hb.size, fun g hg hne => ⟨?_, ?_⟩⟩
  · exact (hgr.block g (Nat.lt_of_lt_of_le hg ha.size) (fun e => hne e.symm)).trans (ha.block g hg)
  · rcases hob with e | e
    · rw [e]; exact hne
    · rw [e]
      intro e2
      simp at e2
      omega
/-- A list of bytes is put behind one of the call's own. -/
theorem add_bytes (lo lo2 : Nat) (v x : Value) (l m : List UInt8) (w : World) (hv : OwnB w lo v l) (hx2 : OwnB w lo2 x m) (hlo : lo ≤ w.heap.size) (hn : l.length + m.length ≤ 140737488355328) :
    ∃ v' w', (∀ ty, (Builtin.append_ #[22, 22] ty #[v, x]).run Try.prog w = .ok v' w') ∧ OwnB w' lo v' (l ++ m) ∧ Below lo w w' ∧ w.heap.size ≤ w'.heap.size ∧ (∀ g, g < w.heap.size → v.ownBlock ≠ some g → w'.heap[g]? = w.heap[g]? ∧ v'.ownBlock ≠ some g) := by
  obtain ⟨i0, hi, hz0, hz1, hz2⟩ := info_partsB byte_info
  have hml := hn
  have hx := hx2.at
  by_cases hx0 : x = .slice none 0 0
  · have h0 : m = [] := by
      obtain ⟨a, c, e, _⟩ := hx
      rw [hx0] at e
      simp at e
      exact List.eq_nil_of_length_eq_zero (by omega)
    subst hx0 h0
    exact ⟨v, w, fun ty => run_append_owned_none w lo _ ty _ i0 1 Try.underlying22 hi v _ _ hv, by rw [List.append_nil]; exact hv, Below.refl _ _, Nat.le_refl _, fun g _ hne => ⟨rfl, hne⟩⟩
  obtain ⟨a, c, rfl⟩ : ∃ a c, x = .slice (some a) m.length c := by
    rcases hx2.2 with ⟨e, _⟩ | ⟨g, cap, cur, e, _⟩
    · exact absurd e hx0
    · exact ⟨_, cap, e⟩
  have hc : 0 < m.length → ∃ b off, a = ⟨b, off, none⟩ := fun h0 => by
    obtain ⟨a', c', e, _, hc⟩ := hx
    obtain ⟨_, b, off, e2, _⟩ := hc h0
    simp at e
    rw [← e.1] at e2
    simp at e2
    exact ⟨b, off, e2⟩
  have hmx : 140737488355328 ≤ maxLen := by decide
  have key := fun ty => run_append_own_at (P := Try.prog) w lo 22 ty 5 i0 (.int .u8 0) 1 1 Try.underlying22 hi hz0 hz1 hz2 rfl (by decide) v l.length (Lib.byteCells l) hv a m.length c (Lib.byteCells m) (by rw [Lib.byteCells_length, Nat.mul_one]) (fun j u hj => by
    have hj2 := (List.getElem?_eq_some_iff.1 hj).1
    rw [Lib.byteCells_length] at hj2
    obtain ⟨b, off, e⟩ := hc (by omega)
    subst e
    exact hx.cells j u hj) (bytes_one m) (by omega) (by omega) hlo
  obtain ⟨v', w', hrun, ho, hgr, _, hob⟩ := key 22
  have hb := ownsRow_underB hv hlo hgr
  refine ⟨v', w', fun ty => hrun, OwnB.app ho, hb, hb.size, fun g hg hne => ⟨hgr.block g hg (fun e => hne e.symm), ?_⟩⟩
  rcases hob with e | e
  · rw [e]; exact hne
  · rw [e]
    intro e2
    simp at e2
    omega
theorem wpList_appendR {ops : Array Oper} {rest : List Oper} {o : Oper} {a : Act} {Q : Exit → Act → World → Prop} {w : World} (hgd : o.guard = none) (s x : Operand) (t : TypeId) (ho : o.op = .call { callee := .builtin .append, args := #[s, x], argTypes := #[t, t] })
    {v1 v2 v' : Value} {w' : World} (hs : a.eval s = v1) (hx : a.eval x = v2) (hrun : ∀ ty, (Builtin.append_ #[t, t] ty #[v1, v2]).run Try.prog w = .ok v' w') (h : wpList Try.prog ops Q rest (a.put o.dst v') w') : wpList Try.prog ops Q (o :: rest) a w := by
  refine wpList_plain hgd fun K hK => ?_
  unfold Oper.wp execOp
  have hr := hrun o.type
  simp only [ho, resolve, invoke, builtin, Sem.run_bind, Sem.run_pure, Result.andThen_ok, List.map_toArray, List.map_cons, List.map_nil, hs, hx, hr]
  exact hK _ _ h
theorem not_i64 (y : Int) (h : -9223372036854775808 ≤ y ∧ y ≤ 9223372036854775807) : bits .xor .i64 (-1) y = -1 - y := by
  have e1 : BitVec.ofInt 64 (-1) = BitVec.allOnes 64 := by decide
  have e2 : (BitVec.ofInt 64 y).toNat = (y % 18446744073709551616).toNat := by simp [BitVec.toNat_ofInt]
  show IntKind.i64.wrap ((BitVec.ofInt 64 (-1) ^^^ BitVec.ofInt 64 y).toNat : Int) = _
  rw [e1, BitVec.allOnes_xor, BitVec.toNat_not, e2, IntKind.wrap_i64]
  omega
theorem pow_128 (k : Nat) : (128 : Nat) ^ k = 2 ^ (7 * k) := by rw [show (128 : Nat) = 2 ^ 7 from rfl, ← Nat.pow_mul]
theorem wraps_i64 (n : Int) (h₀ : 0 ≤ n) (h₁ : n < 2 ^ 63) : IntKind.i64.wrap n = n := by rw [IntKind.wrap_i64]; omega
theorem or_join (k n d : Nat) (hn : n < 128 ^ k) (hd : d < 128) (hk : k < 9) : bits .or .i64 (n : Int) ((d * 128 ^ k : Nat) : Int) = ((n + d * 128 ^ k : Nat) : Int) := by
  have h1 : d * 128 ^ k < 2 ^ 63 := by
    have h2 : 128 ^ (k + 1) ≤ 128 ^ 9 := Nat.pow_le_pow_right (by decide) (by omega)
    have h3 : (128 : Nat) ^ 9 = 2 ^ 63 := by decide
    have h4 : d * 128 ^ k < 128 * 128 ^ k := Nat.mul_lt_mul_of_pos_right hd (Nat.pow_pos (by decide))
    rw [Nat.pow_succ] at h2
    omega
  have h5 : n < 2 ^ 63 := by
    have h2 : 128 ^ k ≤ 128 ^ 9 := Nat.pow_le_pow_right (by decide) (by omega)
    have h3 : (128 : Nat) ^ 9 = 2 ^ 63 := by decide
    omega
  rw [(bits_nat .i64 63 (by decide) wraps_i64 n _ h5 h1).2, Nat.or_comm]
  rw [pow_128] at hn ⊢
  rw [Nat.mul_comm d, ← Nat.two_pow_add_eq_or_of_lt hn d, Nat.add_comm]
end Go.Proofs.Ytgjojajodkagbaa
