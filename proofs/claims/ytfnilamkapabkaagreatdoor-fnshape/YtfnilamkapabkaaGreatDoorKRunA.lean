/- For every op, a and b the program's Word and the model's Word both return one and the same number, which is told by a plain function 'wordV'; neither writes anything that was there. A run of the program in memory: its struct, its place, what it reads, what was told, its way. The parts of a run: fuel, cells, what is read and what is told. What follows of a run, as mathematics: with more fuel the same is told, with less the beginning; noughts behind what is read turn nothing; the way goes from block to block that follows. -/
import Derived.Test.YtfnilamkapabkaaGreatDoorRows
import Derived.WalkKit
import Derived.ProofKit
import Derived.OpenShut
import Derived.Laws.EntriesVeiled
import Derived.Laws.Shifts
import Derived.Below
import Derived.Test.YtfnilamkapabkaaGreatDoorKMake
import Derived.Test.YtfnilamkapabkaaGreatDoorKGraph
import Derived.Test.YtfnilamkapabkaaGreatDoorKTab
import Derived.Deep.RegionHeld3
import Derived.Maps.AppendAt
import Derived.Test.YtfnilamkapabkaaGreatDoorKSh1
namespace Go.Proofs.YtfnilamkapabkaaGreatDoor
open Go.ChangeShapes Go.WideShapes Go.ChangeAt Go.RowKit Go.Shelf
set_option linter.unusedVariables false
theorem ret_int {k:IntKind}{a b:Int}(h:a=b):Ending.returned (.int k a) = .returned (.int k b):=by rw[h]
theorem and63 (b:Int):bits .and .i64 b 63=b % 64:=by
 have h:(BitVec.ofInt 64 b &&& BitVec.ofInt 64 63).toNat=(BitVec.ofInt 64 b).toNat % 64:=by
  rw[BitVec.toNat_and]
  exact Nat.and_two_pow_sub_one_eq_mod _ 6
 have h2:(BitVec.ofInt 64 b).toNat=(b % 18446744073709551616).toNat:=by
  rw[BitVec.toNat_ofInt];rfl
 show IntKind.i64.wrap ((BitVec.ofInt 64 b &&& BitVec.ofInt 64 63).toNat:Int)=_
 rw[h,h2]
 simp[IntKind.wrap,IntKind.bits,IntKind.signed]
 omega
theorem and63_nonneg (b:Int):0≤bits .and .i64 b 63:=by rw[and63];omega
theorem min63 (b:Int):min (bits .and .i64 b 63).toNat 64=(b % 64).toNat:=by rw[and63];omega
def wordV (op a b:Int):Int :=
 if op=1 then(wrap64 (a+b))
 else if op=2 then(wrap64 (a-b))
 else if op=3 then(wrap64 (a*b))
 else if op=4 then(bits .and .i64 a b)
 else if op=5 then(bits .or .i64 a b)
 else if op=6 then(bits .xor .i64 a b)
 else if op=7 then(if a<b then 1 else 0)
 else if op=8 then(if a=b then 1 else 0)
 else if op=9 then(wrap64 (a*2 ^ (b % 64).toNat))
 else if op=10 then(a / 2 ^ (b % 64).toNat)
 else 0
theorem wordV_1 (a b:Int):wordV 1 a b=(wrap64 (a+b)):=by simp[wordV]
theorem wordV_2 (a b:Int):wordV 2 a b=(wrap64 (a-b)):=by simp[wordV]
theorem wordV_3 (a b:Int):wordV 3 a b=(wrap64 (a*b)):=by simp[wordV]
theorem wordV_4 (a b:Int):wordV 4 a b=(bits .and .i64 a b):=by simp[wordV]
theorem wordV_5 (a b:Int):wordV 5 a b=(bits .or .i64 a b):=by simp[wordV]
theorem wordV_6 (a b:Int):wordV 6 a b=(bits .xor .i64 a b):=by simp[wordV]
theorem wordV_7 (a b:Int):wordV 7 a b=(if a<b then 1 else 0):=by simp[wordV]
theorem wordV_8 (a b:Int):wordV 8 a b=(if a=b then 1 else 0):=by simp[wordV]
theorem wordV_9 (a b:Int):wordV 9 a b=(wrap64 (a*2 ^ (b % 64).toNat)):=by simp[wordV]
theorem wordV_10 (a b:Int):wordV 10 a b=(a / 2 ^ (b % 64).toNat):=by simp[wordV]
theorem wordV_no (op a b:Int)(h:op<1∨10<op):wordV op a b=0:=by
 unfold wordV
 repeat rw[if_neg (by omega)]
def Quiet (w w':World):Prop:=Grown w w'∧Below w.heap.size w w'
theorem Quiet.refl (w:World):Quiet w w:=⟨Grown.refl _,Below.refl _ _⟩
theorem Quiet.one (w:World)(c:Array Value)(t:TypeId):Quiet w (w.alloc (.cells c t)):=⟨Grown.alloc (Grown.refl _) _ _,(Below.refl _ _).alloc (Nat.le_refl _) _⟩
set_option maxHeartbeats 400000 in
theorem implW_1 (a b:Int)(w:World) :
  Calls Tryz.prog 149 #[.int .i64 1,.int .i64 a,.int .i64 b] w fun e w'=>e = .returned (.int .i64 (wordV 1 a b))∧Quiet w w':=by
 go_enter Tryz.func149,Tryz.ntmps149
 go_wp2
 go_ret
 exact⟨ret_int (wordV_1 a b).symm,Quiet.one _ _ _⟩
set_option maxHeartbeats 400000 in
theorem implW_2 (a b:Int)(w:World) :
  Calls Tryz.prog 149 #[.int .i64 2,.int .i64 a,.int .i64 b] w fun e w'=>e = .returned (.int .i64 (wordV 2 a b))∧Quiet w w':=by
 go_enter Tryz.func149,Tryz.ntmps149
 go_wp2
 go_ret
 exact⟨ret_int (wordV_2 a b).symm,Quiet.one _ _ _⟩
set_option maxHeartbeats 400000 in
theorem implW_3 (a b:Int)(w:World) :
  Calls Tryz.prog 149 #[.int .i64 3,.int .i64 a,.int .i64 b] w fun e w'=>e = .returned (.int .i64 (wordV 3 a b))∧Quiet w w':=by
 go_enter Tryz.func149,Tryz.ntmps149
 go_wp2
 go_ret
 exact⟨ret_int (wordV_3 a b).symm,Quiet.one _ _ _⟩
set_option maxHeartbeats 400000 in
theorem implW_4 (a b:Int)(w:World) :
  Calls Tryz.prog 149 #[.int .i64 4,.int .i64 a,.int .i64 b] w fun e w'=>e = .returned (.int .i64 (wordV 4 a b))∧Quiet w w':=by
 go_enter Tryz.func149,Tryz.ntmps149
 go_wp2
 go_ret
 exact⟨ret_int (wordV_4 a b).symm,Quiet.one _ _ _⟩
set_option maxHeartbeats 400000 in
theorem implW_5 (a b:Int)(w:World) :
  Calls Tryz.prog 149 #[.int .i64 5,.int .i64 a,.int .i64 b] w fun e w'=>e = .returned (.int .i64 (wordV 5 a b))∧Quiet w w':=by
 go_enter Tryz.func149,Tryz.ntmps149
 go_wp2
 go_ret
 exact⟨ret_int (wordV_5 a b).symm,Quiet.one _ _ _⟩
set_option maxHeartbeats 400000 in
theorem implW_6 (a b:Int)(w:World) :
  Calls Tryz.prog 149 #[.int .i64 6,.int .i64 a,.int .i64 b] w fun e w'=>e = .returned (.int .i64 (wordV 6 a b))∧Quiet w w':=by
 go_enter Tryz.func149,Tryz.ntmps149
 go_wp2
 go_ret
 exact⟨ret_int (wordV_6 a b).symm,Quiet.one _ _ _⟩
set_option maxHeartbeats 400000 in
theorem implW_7 (a b:Int)(w:World) :
  Calls Tryz.prog 149 #[.int .i64 7,.int .i64 a,.int .i64 b] w fun e w'=>e = .returned (.int .i64 (wordV 7 a b))∧Quiet w w':=by
 by_cases h:a<b
 ·go_enter Tryz.func149,Tryz.ntmps149
  go_wp2
  go_ret
  exact⟨ret_int (by rw[wordV_7,if_pos h]),Quiet.one _ _ _⟩
 ·go_enter Tryz.func149,Tryz.ntmps149
  go_wp2
  go_ret
  exact⟨ret_int (by rw[wordV_7,if_neg (by omega)]),Quiet.one _ _ _⟩
set_option maxHeartbeats 400000 in
theorem implW_8 (a b:Int)(w:World) :
  Calls Tryz.prog 149 #[.int .i64 8,.int .i64 a,.int .i64 b] w fun e w'=>e = .returned (.int .i64 (wordV 8 a b))∧Quiet w w':=by
 by_cases h:a=b
 ·subst h
  have he:(a == a)=true:=by simp
  go_enter Tryz.func149,Tryz.ntmps149
  go_wp2
  go_ret
  exact⟨ret_int (by rw[wordV_8,if_pos rfl]),Quiet.one _ _ _⟩
 ·have he:(a == b)=false:=by simpa using h
  go_enter Tryz.func149,Tryz.ntmps149
  go_wp2
  go_ret
  exact⟨ret_int (by rw[wordV_8,if_neg h]),Quiet.one _ _ _⟩
set_option maxHeartbeats 400000 in
theorem implW_9 (a b:Int)(w:World) :
  Calls Tryz.prog 149 #[.int .i64 9,.int .i64 a,.int .i64 b] w fun e w'=>e = .returned (.int .i64 (wordV 9 a b))∧Quiet w w':=by
 have hb:=and63_nonneg b
 go_enter Tryz.func149,Tryz.ntmps149
 go_wp2
 go_ret
 exact⟨ret_int (by rw[wordV_9,min63]),Quiet.one _ _ _⟩
set_option maxHeartbeats 400000 in
theorem implW_10 (a b:Int)(w:World) :
  Calls Tryz.prog 149 #[.int .i64 10,.int .i64 a,.int .i64 b] w fun e w'=>e = .returned (.int .i64 (wordV 10 a b))∧Quiet w w':=by
 have hb:=and63_nonneg b
 go_enter Tryz.func149,Tryz.ntmps149
 go_wp2
 go_ret
 exact⟨ret_int (by rw[wordV_10,min63]),Quiet.one _ _ _⟩
set_option maxHeartbeats 400000 in
theorem implW_no (op a b:Int)(w:World)(h:op<1∨10<op) :
  Calls Tryz.prog 149 #[.int .i64 op,.int .i64 a,.int .i64 b] w fun e w'=>e = .returned (.int .i64 (wordV op a b))∧Quiet w w':=by
 have hv:Hid (wordV op a b=0):=wordV_no op a b h
 rcases h with h | h
 ·have h1:¬1≤op:=by omega
  go_enter Tryz.func149,Tryz.ntmps149
  go_wp2
  go_ret
  exact⟨ret_int hv.out.symm,Quiet.refl _⟩
 ·have h1:1≤op:=by omega
  have h2:¬op<11:=by omega
  go_enter Tryz.func149,Tryz.ntmps149
  go_wp2
  go_ret
  exact⟨ret_int hv.out.symm,Quiet.refl _⟩
theorem impl_word (op a b:Int)(w:World) :
  Calls Tryz.prog 149 #[.int .i64 op,.int .i64 a,.int .i64 b] w fun e w'=>e = .returned (.int .i64 (wordV op a b))∧Quiet w w':=by
 by_cases h:op<1∨10<op
 ·exact implW_no op a b w h
 ·have h':op=1∨op=2∨op=3∨op=4∨op=5∨op=6∨op=7∨op=8∨op=9∨op=10:=by omega
  rcases h' with rfl | rfl | rfl | rfl | rfl | rfl | rfl | rfl | rfl | rfl
  ·exact implW_1 a b w
  ·exact implW_2 a b w
  ·exact implW_3 a b w
  ·exact implW_4 a b w
  ·exact implW_5 a b w
  ·exact implW_6 a b w
  ·exact implW_7 a b w
  ·exact implW_8 a b w
  ·exact implW_9 a b w
  ·exact implW_10 a b w
theorem rcells_set {w:World}{b o:Nat}{v:Value}{t:TypeId}(h:∃c,w.heap[b]? = some (.cells c t (0,0))):∃c,(w.setCell ⟨b,o,none⟩ v).heap[b]? = some (.cells c t (0,0)):=by
 obtain⟨c,h⟩:=h
 exact⟨_,heap_setCell_same w b o c t v h⟩
def ReadsAt (w:World)(v:Value)(l:List Int):Prop :=
 ∃(a:Option Addr) (cap:Nat),v = .slice a l.length cap∧l.length≤cap∧cap≤9223372036854775807∧(0<l.length→∃b off,a=some ⟨b,off,none⟩∧∀i,i<l.length→w.cell? ⟨b,off+i,none⟩=some (.int .i64 (l.getD i 0)))
theorem ReadsAt.keep {w w':World}{v:Value}{l:List Int}(h:ReadsAt w v l)(hb:Below w.heap.size w w'):ReadsAt w' v l:=by
 obtain⟨a,cap,rfl,hm,hm2,hc⟩:=h
 refine⟨a,cap,rfl,hm,hm2,fun hp=>?_⟩
 obtain⟨b,off,rfl,hd⟩:=hc hp
 exact⟨b,off,rfl,fun i hi=>Bel.keeps hb (hd i hi)⟩
structure RunCells (w:World)(R S:Nat)(bv:Value)(vals:Int)(vs cs:Nat→Int)(fuel fr pl:Int)(rv tv pv:Value):Prop where
 row:∃c,w.heap[R]? = some (.cells c 85 (0,0))
 srow:∃c,w.heap[S]? = some (.cells c 100 (0,0))
 c0:w.cell? ⟨R,0,none⟩=some rv
 c1:w.cell? ⟨R,1,none⟩=some (.int .i64 fuel)
 cc:∀i,i<8→w.cell? ⟨R,2+i,none⟩=some (.int .i64 (cs i))
 c10:w.cell? ⟨R,10,none⟩=some tv
 c11:w.cell? ⟨R,11,none⟩=some bv
 c12:w.cell? ⟨R,12,none⟩=some (.int .i64 vals)
 c13:w.cell? ⟨R,13,none⟩=some (.pointer (some ⟨S,0,none⟩))
 cv:∀i,i<80→w.cell? ⟨R,14+i,none⟩=some (.int .i64 (vs i))
 c94:w.cell? ⟨R,94,none⟩=some pv
 s0:w.cell? ⟨S,0,none⟩=some (.int .i64 fr)
 s1:w.cell? ⟨S,1,none⟩=some (.int .i64 pl)
 ne:R≠S
section
variable {w w':World} {R S:Nat} {bv:Value} {vals:Int} {vs cs:Nat→Int} {fuel fr pl:Int} {rv tv pv:Value}
theorem RunCells.lt (h:RunCells w R S bv vals vs cs fuel fr pl rv tv pv):R<w.heap.size∧S<w.heap.size:=by
 obtain⟨c,hc⟩:=h.row
 obtain⟨d,hd⟩:=h.srow
 exact⟨(Array.getElem?_eq_some_iff.1 hc).1,(Array.getElem?_eq_some_iff.1 hd).1⟩
theorem RunCells.moved (h:RunCells w R S bv vals vs cs fuel fr pl rv tv pv)(hr:w'.heap[R]? = w.heap[R]?)(hs:w'.heap[S]? = w.heap[S]?):RunCells w' R S bv vals vs cs fuel fr pl rv tv pv :=
 ⟨by rw[hr];exact h.row,by rw[hs];exact h.srow,(cell_of_heap hr _).trans h.c0,(cell_of_heap hr _).trans h.c1,fun i hi=>(cell_of_heap hr _).trans (h.cc i hi),(cell_of_heap hr _).trans h.c10,(cell_of_heap hr _).trans h.c11,(cell_of_heap hr _).trans h.c12,(cell_of_heap hr _).trans h.c13,fun i hi=>(cell_of_heap hr _).trans (h.cv i hi),(cell_of_heap hr _).trans h.c94,(cell_of_heap hs _).trans h.s0,(cell_of_heap hs _).trans h.s1,h.ne⟩
theorem RunCells.later (h:RunCells w R S bv vals vs cs fuel fr pl rv tv pv)(hb:Below w.heap.size w w'):RunCells w' R S bv vals vs cs fuel fr pl rv tv pv :=
 h.moved (hb.block _ h.lt.1) (hb.block _ h.lt.2)
theorem far_off {w:World}{R:Nat}{i o:Nat}{v x:Value}(h:w.cell? ⟨R,i,none⟩=some x)(hne:i≠o):(w.setCell ⟨R,o,none⟩ v).cell? ⟨R,i,none⟩=some x:=by
 rw[World.cell?_setCell_other _ _ _ _ (fun e=>hne (by simpa using (congrArg Addr.off e).symm))];exact h
theorem far_block {w:World}{R S:Nat}{i o:Nat}{v x:Value}(h:w.cell? ⟨S,i,none⟩=some x)(hne:R≠S):(w.setCell ⟨R,o,none⟩ v).cell? ⟨S,i,none⟩=some x:=by
 rw[World.cell?_setCell_other _ _ _ _ (fun e=>hne (by simpa using congrArg Addr.block e))];exact h
theorem RunCells.setVal (h:RunCells w R S bv vals vs cs fuel fr pl rv tv pv){d:Nat}(hd:d<80)(x:Int):RunCells (w.setCell ⟨R,14+d,none⟩ (.int .i64 x)) R S bv vals (updN vs d x) cs fuel fr pl rv tv pv:=by
 refine⟨rcells_set h.row,?_,far_off h.c0 (by omega),far_off h.c1 (by omega),fun i hi=>far_off (h.cc i hi) (by omega),far_off h.c10 (by omega),far_off h.c11 (by omega),far_off h.c12 (by omega),far_off h.c13 (by omega),fun i hi=>?_,far_off h.c94 (by omega),far_block h.s0 h.ne,far_block h.s1 h.ne,h.ne⟩
 ·rw[heap_setCell_other _ _ _ _ (fun e=>h.ne e.symm)];exact h.srow
 ·unfold updN
  by_cases e:i=d
  ·subst e
   rw[if_pos rfl]
   exact World.cell?_setCell_same _ _ _ (h.cv i hi)
  ·rw[if_neg e]
   exact far_off (h.cv i hi) (by omega)
theorem RunCells.setCell (h:RunCells w R S bv vals vs cs fuel fr pl rv tv pv){d:Nat}(hd:d<8)(x:Int):RunCells (w.setCell ⟨R,2+d,none⟩ (.int .i64 x)) R S bv vals vs (updN cs d x) fuel fr pl rv tv pv:=by
 refine⟨rcells_set h.row,?_,far_off h.c0 (by omega),far_off h.c1 (by omega),fun i hi=>?_,far_off h.c10 (by omega),far_off h.c11 (by omega),far_off h.c12 (by omega),far_off h.c13 (by omega),fun i hi=>far_off (h.cv i hi) (by omega),far_off h.c94 (by omega),far_block h.s0 h.ne,far_block h.s1 h.ne,h.ne⟩
 ·rw[heap_setCell_other _ _ _ _ (fun e=>h.ne e.symm)];exact h.srow
 ·unfold updN
  by_cases e:i=d
  ·subst e
   rw[if_pos rfl]
   exact World.cell?_setCell_same _ _ _ (h.cc i hi)
  ·rw[if_neg e]
   exact far_off (h.cc i hi) (by omega)
theorem RunCells.setFuel (h:RunCells w R S bv vals vs cs fuel fr pl rv tv pv)(x:Int):RunCells (w.setCell ⟨R,1,none⟩ (.int .i64 x)) R S bv vals vs cs x fr pl rv tv pv:=by
 refine⟨rcells_set h.row,?_,far_off h.c0 (by omega),World.cell?_setCell_same _ _ _ h.c1,fun i hi=>far_off (h.cc i hi) (by omega),far_off h.c10 (by omega),far_off h.c11 (by omega),far_off h.c12 (by omega),far_off h.c13 (by omega),fun i hi=>far_off (h.cv i hi) (by omega),far_off h.c94 (by omega),far_block h.s0 h.ne,far_block h.s1 h.ne,h.ne⟩
 rw[heap_setCell_other _ _ _ _ (fun e=>h.ne e.symm)];exact h.srow
theorem RunCells.setReads (h:RunCells w R S bv vals vs cs fuel fr pl rv tv pv)(x:Value):RunCells (w.setCell ⟨R,0,none⟩ x) R S bv vals vs cs fuel fr pl x tv pv:=by
 refine⟨rcells_set h.row,?_,World.cell?_setCell_same _ _ _ h.c0,far_off h.c1 (by omega),fun i hi=>far_off (h.cc i hi) (by omega),far_off h.c10 (by omega),far_off h.c11 (by omega),far_off h.c12 (by omega),far_off h.c13 (by omega),fun i hi=>far_off (h.cv i hi) (by omega),far_off h.c94 (by omega),far_block h.s0 h.ne,far_block h.s1 h.ne,h.ne⟩
 rw[heap_setCell_other _ _ _ _ (fun e=>h.ne e.symm)];exact h.srow
theorem RunCells.setTold (h:RunCells w R S bv vals vs cs fuel fr pl rv tv pv)(x:Value):RunCells (w.setCell ⟨R,10,none⟩ x) R S bv vals vs cs fuel fr pl rv x pv:=by
 refine⟨rcells_set h.row,?_,far_off h.c0 (by omega),far_off h.c1 (by omega),fun i hi=>far_off (h.cc i hi) (by omega),World.cell?_setCell_same _ _ _ h.c10,far_off h.c11 (by omega),far_off h.c12 (by omega),far_off h.c13 (by omega),fun i hi=>far_off (h.cv i hi) (by omega),far_off h.c94 (by omega),far_block h.s0 h.ne,far_block h.s1 h.ne,h.ne⟩
 rw[heap_setCell_other _ _ _ _ (fun e=>h.ne e.symm)];exact h.srow
theorem RunCells.setPath (h:RunCells w R S bv vals vs cs fuel fr pl rv tv pv)(x:Value):RunCells (w.setCell ⟨R,94,none⟩ x) R S bv vals vs cs fuel fr pl rv tv x:=by
 refine⟨rcells_set h.row,?_,far_off h.c0 (by omega),far_off h.c1 (by omega),fun i hi=>far_off (h.cc i hi) (by omega),far_off h.c10 (by omega),far_off h.c11 (by omega),far_off h.c12 (by omega),far_off h.c13 (by omega),fun i hi=>far_off (h.cv i hi) (by omega),World.cell?_setCell_same _ _ _ h.c94,far_block h.s0 h.ne,far_block h.s1 h.ne,h.ne⟩
 rw[heap_setCell_other _ _ _ _ (fun e=>h.ne e.symm)];exact h.srow
theorem RunCells.setFrom (h:RunCells w R S bv vals vs cs fuel fr pl rv tv pv)(x:Int):RunCells (w.setCell ⟨S,0,none⟩ (.int .i64 x)) R S bv vals vs cs fuel x pl rv tv pv:=by
 have n:S≠R:=fun e=>h.ne e.symm
 refine⟨?_,rcells_set h.srow,far_block h.c0 n,far_block h.c1 n,fun i hi=>far_block (h.cc i hi) n,far_block h.c10 n,far_block h.c11 n,far_block h.c12 n,far_block h.c13 n,fun i hi=>far_block (h.cv i hi) n,far_block h.c94 n,World.cell?_setCell_same _ _ _ h.s0,far_off h.s1 (by omega),h.ne⟩
 rw[heap_setCell_other _ _ _ _ h.ne];exact h.row
theorem RunCells.setPlace (h:RunCells w R S bv vals vs cs fuel fr pl rv tv pv)(x:Int):RunCells (w.setCell ⟨S,1,none⟩ (.int .i64 x)) R S bv vals vs cs fuel fr x rv tv pv:=by
 have n:S≠R:=fun e=>h.ne e.symm
 refine⟨?_,rcells_set h.srow,far_block h.c0 n,far_block h.c1 n,fun i hi=>far_block (h.cc i hi) n,far_block h.c10 n,far_block h.c11 n,far_block h.c12 n,far_block h.c13 n,fun i hi=>far_block (h.cv i hi) n,far_block h.c94 n,far_off h.s0 (by omega),World.cell?_setCell_same _ _ _ h.s1,h.ne⟩
 rw[heap_setCell_other _ _ _ _ h.ne];exact h.row
end
structure RunAt (W0 w:World)(R S:Nat)(bv:Value)(vals:Int)(s:RunS)(fr pl:Int)(rv tv pv:Value):Prop where
 cells:RunCells w R S bv vals s.vals s.cells (s.fuel:Int) fr pl rv tv pv
 reads:ReadsAt W0 rv s.reads
 told:OwnInts w W0.heap.size tv s.told
 path:OwnInts w W0.heap.size pv s.path
 apart:∀g,tv.ownBlock=some g→pv.ownBlock=some g→False
 below:Below W0.heap.size W0 w
 hR:W0.heap.size≤R
 hS:W0.heap.size≤S
def RunIs (W0 w:World)(R S:Nat)(bv:Value)(vals:Int)(s:RunS)(fr pl:Int):Prop := ∃rv tv pv,RunAt W0 w R S bv vals s fr pl rv tv pv
section
variable {W0 w w':World} {R S:Nat} {bv:Value} {vals:Int} {s:RunS} {fr pl:Int} {rv tv pv:Value}
theorem RunAt.later (h:RunAt W0 w R S bv vals s fr pl rv tv pv)(hb:Below w.heap.size w w'):RunAt W0 w' R S bv vals s fr pl rv tv pv :=
 ⟨h.cells.later hb,h.reads,h.told.keep hb,h.path.keep hb,h.apart,Bel.after h.below hb,h.hR,h.hS⟩
theorem own_far {w:World}{lo:Nat}{v:Value}{l:List Int}(h:OwnInts w lo v l){b o:Nat}{x:Value}{t:TypeId}(hb:∃c,w.heap[b]? = some (.cells c t (0,0)))(ht:t≠3):OwnInts (w.setCell ⟨b,o,none⟩ x) lo v l:=by
 obtain⟨c,hc⟩:=hb
 have hn:=h.not_box hc ht
 obtain⟨h0,h1⟩:=h
 refine⟨h0,?_⟩
 rcases h1 with h1 | ⟨g,cap,cur,rfl,hlo,hg,h2⟩
 ·exact .inl h1
 ·refine .inr ⟨g,cap,cur,rfl,hlo,?_,h2⟩
  rw[heap_setCell_other _ _ _ _ (fun e=>hn (by simp[Value.ownBlock];exact e.symm))]
  exact hg
theorem RunAt.setVal (h:RunAt W0 w R S bv vals s fr pl rv tv pv){d:Nat}(hd:d<80)(x:Int):RunAt W0 (w.setCell ⟨R,14+d,none⟩ (.int .i64 x)) R S bv vals { s with vals:=updN s.vals d x } fr pl rv tv pv :=
 ⟨h.cells.setVal hd x,h.reads,own_far h.told h.cells.row (by decide),own_far h.path h.cells.row (by decide),h.apart,h.below.setCell (p:=⟨R,14+d,none⟩) h.hR _,h.hR,h.hS⟩
theorem RunAt.setCell (h:RunAt W0 w R S bv vals s fr pl rv tv pv){d:Nat}(hd:d<8)(x:Int):RunAt W0 (w.setCell ⟨R,2+d,none⟩ (.int .i64 x)) R S bv vals { s with cells:=updN s.cells d x } fr pl rv tv pv :=
 ⟨h.cells.setCell hd x,h.reads,own_far h.told h.cells.row (by decide),own_far h.path h.cells.row (by decide),h.apart,h.below.setCell (p:=⟨R,2+d,none⟩) h.hR _,h.hR,h.hS⟩
theorem RunAt.setFuel (h:RunAt W0 w R S bv vals s fr pl rv tv pv)(k:Nat):RunAt W0 (w.setCell ⟨R,1,none⟩ (.int .i64 (k:Int))) R S bv vals { s with fuel:=k } fr pl rv tv pv :=
 ⟨h.cells.setFuel k,h.reads,own_far h.told h.cells.row (by decide),own_far h.path h.cells.row (by decide),h.apart,h.below.setCell (p:=⟨R,1,none⟩) h.hR _,h.hR,h.hS⟩
theorem RunAt.setReads (h:RunAt W0 w R S bv vals s fr pl rv tv pv){x:Value}{l:List Int}(hx:ReadsAt W0 x l):RunAt W0 (w.setCell ⟨R,0,none⟩ x) R S bv vals { s with reads:=l } fr pl x tv pv :=
 ⟨h.cells.setReads x,hx,own_far h.told h.cells.row (by decide),own_far h.path h.cells.row (by decide),h.apart,h.below.setCell (p:=⟨R,0,none⟩) h.hR _,h.hR,h.hS⟩
theorem RunAt.setFrom (h:RunAt W0 w R S bv vals s fr pl rv tv pv)(x:Int):RunAt W0 (w.setCell ⟨S,0,none⟩ (.int .i64 x)) R S bv vals s x pl rv tv pv :=
 ⟨h.cells.setFrom x,h.reads,own_far h.told h.cells.srow (by decide),own_far h.path h.cells.srow (by decide),h.apart,h.below.setCell (p:=⟨S,0,none⟩) h.hS _,h.hR,h.hS⟩
theorem RunAt.setPlace (h:RunAt W0 w R S bv vals s fr pl rv tv pv)(x:Int):RunAt W0 (w.setCell ⟨S,1,none⟩ (.int .i64 x)) R S bv vals s fr x rv tv pv :=
 ⟨h.cells.setPlace x,h.reads,own_far h.told h.cells.srow (by decide),own_far h.path h.cells.srow (by decide),h.apart,h.below.setCell (p:=⟨S,1,none⟩) h.hS _,h.hR,h.hS⟩
theorem RunAt.frozen (h:RunAt W0 w R S bv vals s fr pl rv tv pv)(o:Nat):w.frozen? ⟨R,o,none⟩=false:=frozen_of_cells h.cells.row o
theorem RunAt.frozenS (h:RunAt W0 w R S bv vals s fr pl rv tv pv)(o:Nat):w.frozen? ⟨S,o,none⟩=false:=frozen_of_cells h.cells.srow o
theorem grown_cells (h:RunAt W0 w R S bv vals s fr pl rv tv pv){o:Obj}{wa:World}{v:Value}{l:List Int}(hv:OwnInts w W0.heap.size v l)(hg:(w.alloc o).grownBy wa v.ownBlock):RunCells wa R S bv vals s.vals s.cells (s.fuel:Int) fr pl rv tv pv∧Below W0.heap.size W0 wa:=by
 obtain⟨c,hc⟩:=h.cells.row
 obtain⟨d,hd⟩:=h.cells.srow
 have l1:=h.cells.lt.1
 have l2:=h.cells.lt.2
 refine⟨h.cells.moved ?_ ?_,h.below.trans (hv.grown h.below.size hg)⟩
 ·exact(hg.block R (by simp;omega) (hv.not_box hc (by decide))).trans (Below.heap_alloc _ _ _ l1)
 ·exact(hg.block S (by simp;omega) (hv.not_box hd (by decide))).trans (Below.heap_alloc _ _ _ l2)
theorem grown_other {o:Obj}{wa:World}{v v2:Value}{lo:Nat}{l2:List Int}(h2:OwnInts w lo v2 l2)(hg:(w.alloc o).grownBy wa v.ownBlock)(hap:∀g,v.ownBlock=some g→v2.ownBlock=some g→False):OwnInts wa lo v2 l2:=by
 refine World.ownsRow.kept (World.ownsRow.alloc h2 _) hg ?_
 rcases h2.2 with ⟨rfl,_⟩ | ⟨g',cap,cur,rfl,_,hgb,_⟩
 ·exact .inl rfl
 ·exact .inr fun e=>hap g' e.symm rfl
def NoRow (o:Obj):Prop := ∀c z,o≠.cells c 3 z
structure FrR (R S:Nat)(w w':World):Prop where
 size:w.heap.size≤w'.heap.size
 block:∀k o,w.heap[k]? = some o→k≠R→k≠S→NoRow o→w'.heap[k]? = some o
theorem FrR.refl (R S:Nat)(w:World):FrR R S w w:=⟨Nat.le_refl _,fun _ _ h _ _ _=>h⟩
theorem FrR.trans {R S:Nat}{a b c:World}(h:FrR R S a b)(k:FrR R S b c):FrR R S a c :=
 ⟨Nat.le_trans h.size k.size,fun i o hi h1 h2 h3=>k.block i o (h.block i o hi h1 h2 h3) h1 h2 h3⟩
theorem FrR.ofBelow {R S:Nat}{a b:World}(h:Below a.heap.size a b):FrR R S a b :=
 ⟨h.size,fun i o hi _ _ _=>(h.block i (Array.getElem?_eq_some_iff.1 hi).1).trans hi⟩
theorem FrR.setR (R S o:Nat)(v:Value)(w:World):FrR R S w (w.setCell ⟨R,o,none⟩ v) :=
 ⟨by simp,fun i ob hi h1 _ _=>by rw[heap_setCell_other _ _ _ _ h1];exact hi⟩
theorem FrR.setS (R S o:Nat)(v:Value)(w:World):FrR R S w (w.setCell ⟨S,o,none⟩ v) :=
 ⟨by simp,fun i ob hi _ h2 _=>by rw[heap_setCell_other _ _ _ _ h2];exact hi⟩
theorem FrR.drew (R S:Nat)(w:World):FrR R S w w.drew:=⟨Nat.le_refl _,fun _ _ h _ _ _=>h⟩
theorem FrR.grown {R S lo:Nat}{w wa:World}{ob:Obj}{v:Value}{l:List Int}(hv:OwnInts w lo v l)(hg:(w.alloc ob).grownBy wa v.ownBlock):FrR R S w wa:=by
 refine⟨Nat.le_trans (by simp) hg.size,fun i o hi _ _ h3=>?_⟩
 have hlt:=(Array.getElem?_eq_some_iff.1 hi).1
 refine(hg.block i (by simp;omega) ?_).trans ((Below.heap_alloc w _ i hlt).trans hi)
 intro e
 rcases hv.2 with ⟨rfl,_⟩ | ⟨g,cap,cur,rfl,_,hgb,_⟩
 ·simp[Value.ownBlock] at e
 ·obtain rfl:i=g:=by simpa [Value.ownBlock] using e
  rw[hi] at hgb
  cases hgb
  exact h3 _ _ rfl
theorem FrR.box {R S:Nat}{w w':World}(h:FrR R S w w'){B:Nat}{c:Array Value}{t:TypeId}{z:Nat × Nat}(hB:w.heap[B]? = some (.cells c t z))(h1:B≠R)(h2:B≠S)(ht:t≠3):w'.heap[B]? = some (.cells c t z) :=
 h.block B _ hB h1 h2 (fun c' z' e=>by cases e;exact ht rfl)
def RunTo (W0:World)(R S:Nat)(bv:Value)(vals fr pl:Int)(w:World)(s:RunS)(w':World):Prop:=RunIs W0 w' R S bv vals s fr pl∧FrR R S w w'
theorem RunAt.drew (h:RunAt W0 w R S bv vals s fr pl rv tv pv):RunAt W0 w.drew R S bv vals s fr pl rv tv pv:=h.later (Below.refl _ _).drew
theorem RunIs.later (h:RunIs W0 w R S bv vals s fr pl)(hb:Below w.heap.size w w'):RunIs W0 w' R S bv vals s fr pl:=by
 obtain⟨rv,tv,pv,h⟩:=h
 exact⟨rv,tv,pv,h.later hb⟩
theorem RunIs.lt (h:RunIs W0 w R S bv vals s fr pl):R<w.heap.size∧S<w.heap.size:=by
 obtain⟨rv,tv,pv,h⟩:=h
 exact h.cells.lt
theorem apart_new {w:World}{o:Obj}{lo:Nat}{v v' v2:Value}{l2:List Int}(h2:OwnInts w lo v2 l2)(hap:∀g,v.ownBlock=some g→v2.ownBlock=some g→False)(hat:v'.ownBlock=v.ownBlock∨v'.ownBlock=some (w.alloc o).heap.size):∀g,v'.ownBlock=some g→v2.ownBlock=some g→False:=by
 intro g e1 e2
 rcases hat with e | e
 ·exact hap g (e.symm.trans e1) e2
 ·rw[e] at e1
  have hlt:=(World.ownsRow.lt h2 g e2).2
  have:(w.alloc o).heap.size=g:=by simpa using e1
  simp at this
  omega
end
section
variable {W0:World} {R S:Nat} {bv:Value} {vals:Int} {s:RunS} {fr pl:Int}
theorem burn_none (w:World)(h:RunIs W0 w R S bv vals s fr pl)(hf:s.fuel=0) :
  Calls Tryz.prog 93 #[.pointer (some ⟨R,0,none⟩)] w fun e w'=>e = .returned (.bool false)∧w'=w:=by
 obtain⟨rv,tv,pv,h⟩:=h
 have c1:=h.cells.c1
 rw[hf] at c1
 clear h
 go_enter Tryz.func93,Tryz.ntmps93
 go_wp2
 go_ret
 exact⟨rfl,rfl⟩
theorem burn_one (w:World)(h:RunIs W0 w R S bv vals s fr pl){k:Nat}(hf:s.fuel=k+1)(hk:k≤5000) :
  Calls Tryz.prog 93 #[.pointer (some ⟨R,0,none⟩)] w fun e w'=>e = .returned (.bool true)∧RunTo W0 R S bv vals fr pl w { s with fuel:=k } w':=by
 obtain⟨rv,tv,pv,h⟩:=h
 obtain⟨m,HM⟩:∃m:Int,Hid (m=(s.fuel:Int)):=⟨_,rfl⟩
 have c1:=h.cells.c1
 have f1:=h.frozen 1
 have HH:Hid (RunAt W0 w R S bv vals s fr pl rv tv pv):=h
 rw[←HM.out] at c1
 have hm0:(m == 0)=false:=by have:=HM.out;simp;omega
 have hm1:1≤m:=by have:=HM.out;omega
 have hm2:m≤5001:=by have:=HM.out;omega
 clear h
 go_enter Tryz.func93,Tryz.ntmps93
 go_wp2
 go_ret
 have e:m-1=(k:Int):=by have:=HM.out;omega
 refine⟨rfl,⟨rv,tv,pv,?_⟩,FrR.setR _ _ _ _ _⟩
 rw[e]
 exact HH.out.setFuel k
theorem read_any (w:World)(h:RunIs W0 w R S bv vals s fr pl) :
  Calls Tryz.prog 153 #[.pointer (some ⟨R,0,none⟩)] w fun e w'=>e = .returned (.int .i64 (s.reads.headD 0))∧RunTo W0 R S bv vals fr pl w { s with reads:=s.reads.tail } w':=by
 obtain⟨rv,tv,pv,h⟩:=h
 have c0:=h.cells.c0
 have f0:=h.frozen 0
 have HH:Hid (RunAt W0 w R S bv vals s fr pl rv tv pv):=h
 obtain⟨a,cap,rfl,hcap,hcm,hc⟩:=h.reads
 cases hl:s.reads with
 | nil=>
  rw[hl] at c0
  have HL:Hid (s.reads = []):=hl
  clear hc h hcap hcm
  go_enter Tryz.func153,Tryz.ntmps153
  go_wp2
  go_ret
  refine⟨rfl,⟨.slice a s.reads.length cap,tv,pv,?_⟩,FrR.refl _ _ _⟩
  have e:{ s with reads := [] }=s:=by rw[←HL.out]
  show RunAt W0 w R S bv vals { s with reads := [] } fr pl _ tv pv
  rw[e]
  exact HH.out
 | cons x l=>
  rw[hl] at c0 hc hcap
  obtain⟨b,off,rfl,hd⟩:=hc (by simp)
  have q0:w.cell? ⟨b,off,none⟩=some (.int .i64 x):=by
   have:=hd 0 (by simp)
   exact Bel.keeps h.below (by simpa using this)
  obtain⟨n,HN⟩:∃n,Hid ((x :: l).length=n):=⟨_,rfl⟩
  rw[HN.out] at c0 hcap
  have hn:1≤n:=by have:=HN.out;simp at this;omega
  have hn0:((n:Int) == 0)=false:=by simp;omega
  have HD:Hid (∀i,i<(x :: l).length→W0.cell? ⟨b,off+i,none⟩=some (.int .i64 ((x :: l).getD i 0))):=hd
  have HL:Hid (s.reads=x :: l):=hl
  clear hc h hd hl
  go_enter Tryz.func153,Tryz.ntmps153
  go_wp2
  ·go_ret
   refine⟨rfl,⟨_,tv,pv,HH.out.setReads (l:=l) ?_⟩,FrR.setR _ _ _ _ _⟩
   have hl0:l = []:=by
    have:=HN.out
    simp at this
    exact List.eq_nil_of_length_eq_zero (by omega)
   subst hl0
   exact⟨_,_,by rw[←HN.out];rfl,by simp,by omega,fun hp=>absurd hp (by simp)⟩
  ·go_ret
   refine⟨rfl,⟨_,tv,pv,HH.out.setReads (l:=l) ?_⟩,FrR.setR _ _ _ _ _⟩
   have hnl:n-1=l.length:=by have:=HN.out;simp at this;omega
   refine⟨_,_,by rw[hnl],by omega,by omega,fun hp=>⟨b,off+1,rfl,fun i hi=>?_⟩⟩
   have:=HD.out (i+1) (by simp;omega)
   have e:off+(i+1)=off+1+i:=by omega
   rw[e] at this
   simpa [List.getD] using this
set_option maxRecDepth 100000 in
set_option maxHeartbeats 1000000 in
theorem tell_any (x:Int)(w:World)(h:RunIs W0 w R S bv vals s fr pl)(hl:s.told.length≤5000) :
  Calls Tryz.prog 152 #[.pointer (some ⟨R,0,none⟩),.int .i64 x] w fun e w'=>(∃v,e = .returned v)∧RunTo W0 R S bv vals fr pl w { s with told:=s.told ++ [x] } w':=by
 obtain⟨rv,tv,pv,h⟩:=h
 have HH:Hid (RunAt W0 w R S bv vals s fr pl rv tv pv):=h
 have c10:=h.cells.c10
 have hRl:=h.cells.lt.1
 obtain⟨i0,hi,hz0,hz1,hz2⟩:=info_parts info_int
 have hmx:100000≤maxLen:=by decide
 clear h
 go_enter Tryz.func152,Tryz.ntmps152
 go_wp2_with (at_builtin;refine wpList_append_own_at _ rfl _ _ 29 rfl W0.heap.size 3 i0 (.int .i64 0) 1 8 Tryz.underlying29 hi hz0 hz1 hz2 rfl (by decide) _ _ _ rfl (World.ownsRow.alloc HH.out.told _) ⟨w.heap.size,0,none⟩ 1 1 [.int .i64 x] rfl rfl (cell_one_new _ _ _) (by simp[Value.oneCell']) (by omega) (by omega) (by have:=HH.out.below.size;simp;omega) ?_;intro v' wa hown' hgrow _ hat;have HAT:Hid (v'.ownBlock=tv.ownBlock∨v'.ownBlock=some (w.alloc (.cells #[.int .i64 x] 3)).heap.size):=hat;obtain⟨g',cap',rfl⟩:=ownsRow_succ hown';have HO':Hid (OwnInts wa W0.heap.size (.slice (some ⟨g',0,none⟩) (s.told.length+1) cap') (s.told ++ [x])):=OwnInts.next hown';have HG:Hid ((w.alloc (.cells #[.int .i64 x] 3)).grownBy wa tv.ownBlock):=hgrow;have ka:=(grown_cells HH.out HH.out.told HG.out).1;have c10':=ka.c10;have f10':=frozen_of_cells ka.row 10;clear hown' hgrow ka c10 hat)
 go_end0
 obtain⟨ka,hb⟩:=grown_cells HH.out HH.out.told HG.out
 exact⟨⟨_,rfl⟩,⟨rv,_,pv,ka.setTold _,HH.out.reads,own_far HO'.out ka.row (by decide),own_far (grown_other HH.out.path HG.out HH.out.apart) ka.row (by decide),apart_new HH.out.path HH.out.apart HAT.out,hb.setCell (p:=⟨R,10,none⟩) HH.out.hR _,HH.out.hR,HH.out.hS⟩,(FrR.grown HH.out.told HG.out).trans (FrR.setR _ _ _ _ _)⟩
theorem cell_yes (a:Nat)(ha:a<8)(w:World) :
  Calls Tryz.prog 202 #[.pointer (some ⟨R,0,none⟩),.int .i64 (a:Int)] w fun e w'=>e = .returned (.pointer (some ⟨R,2+a,none⟩))∧w'=w:=by
 have h0:¬(a:Int)<0:=by omega
 have h1:¬(8:Int)≤(a:Int):=by omega
 have h2:(a:Int)<8:=by omega
 go_enter Tryz.func202,Tryz.ntmps202
 go_wp2
 go_ret
 exact⟨rfl,rfl⟩
theorem cell_no (a:Int)(ha:¬cellOk a)(w:World) :
  Calls Tryz.prog 202 #[.pointer (some ⟨R,0,none⟩),.int .i64 a] w fun e w'=>e = .returned (.pointer none)∧w'=w:=by
 by_cases h0:a<0
 ·clear ha
  go_enter Tryz.func202,Tryz.ntmps202
  go_wp2
  go_ret
  exact⟨rfl,rfl⟩
 ·have h1:(8:Int)≤a:=by unfold cellOk at ha;omega
  clear ha
  go_enter Tryz.func202,Tryz.ntmps202
  go_wp2
  go_ret
  exact⟨rfl,rfl⟩
theorem choose_any (k a t e:Int)(an:Nat)(ha:a=(an:Int))(han:an<80)(w:World)(h:RunIs W0 w R S bv vals s fr pl) :
  Calls Tryz.prog 94 #[.pointer (some ⟨R,0,none⟩),.agg #[.int .i64 k,.int .i64 a,.int .i64 t,.int .i64 e]] w fun en w'=>en = .returned (.int .i64 (if s.vals an=0 then e else t))∧Below w.heap.size w w':=by
 subst ha
 obtain⟨rv,tv,pv,h⟩:=h
 have cv:=h.cells.cv an han
 have hl:=h.cells.lt.1
 obtain⟨x,HX⟩:∃x,Hid (s.vals an=x):=⟨_,rfl⟩
 rw[HX.out] at cv ⊢
 have hi2:(an:Int)<80:=by omega
 clear h
 by_cases hx:x=0
 ·rw[if_pos hx]
  subst hx
  go_enter Tryz.func94,Tryz.ntmps94
  go_wp2
  go_region_held3 (fun w'=>w'.cell? ⟨R,14+an,none⟩=some (.int .i64 0)∧w'.cell? ⟨w.heap.size,1,none⟩=some (.int .i64 (an:Int))) (go_keep) (fail)
  simp only[Exit.then]
  go_at_K
  go_wp2
  go_ret
  exact⟨rfl,by repeat (first | exact Below.refl _ _ | apply Below.drew | refine Below.alloc ?_ (by simp <;> omega) _ | refine Below.setCell ?_ (by simp <;> omega) _)⟩
 ·rw[if_neg hx]
  have hx2:(x == 0)=false:=by simp[hx]
  go_enter Tryz.func94,Tryz.ntmps94
  go_wp2
  go_region_held3 (fun w'=>w'.cell? ⟨R,14+an,none⟩=some (.int .i64 x)∧w'.cell? ⟨w.heap.size,1,none⟩=some (.int .i64 (an:Int))) (go_keep) (fail)
  simp only[Exit.then]
  go_at_K
  go_wp2
  go_ret
  exact⟨rfl,by repeat (first | exact Below.refl _ _ | apply Below.drew | refine Below.alloc ?_ (by simp <;> omega) _ | refine Below.setCell ?_ (by simp <;> omega) _)⟩
theorem box2 (w:World)(x y:Value)(t:TypeId):(w.alloc (.cells #[x,y] t)).cell? ⟨w.heap.size,0,none⟩=some x∧(w.alloc (.cells #[x,y] t)).cell? ⟨w.heap.size,1,none⟩=some y:=by
 constructor
 ·simp only[World.cell?];rw[World.alloc_heap_new];rfl
 ·simp only[World.cell?];rw[World.alloc_heap_new];rfl
set_option maxHeartbeats 1000000 in
theorem load_yes (d an cn:Nat)(hd:d<80)(ha:an<80)(hc:cn<8)(hv:s.vals an=(cn:Int))(w:World)(h:RunIs W0 w R S bv vals s fr pl) :
  Calls Tryz.prog 150 #[.pointer (some ⟨R,0,none⟩),.agg #[.int .i64 (d:Int),.int .i64 (an:Int)]] w fun e w'=>e = .returned (.int .i64 0)∧RunTo W0 R S bv vals fr pl w { s with vals:=updN s.vals d (s.cells cn) } w':=by
 obtain⟨rv,tv,pv,h⟩:=h
 have hd2:(d:Int)<80:=by omega
 have ha2:(an:Int)<80:=by omega
 have HV:Hid (s.vals an=(cn:Int)):=hv
 clear hv
 have HH0:Hid (RunAt W0 w R S bv vals s fr pl rv tv pv):=h
 clear h
 go_enter Tryz.func150,Tryz.ntmps150
 go_wp2
 obtain⟨x0,x1⟩:=box2 w (.int .i64 (d:Int)) (.int .i64 (an:Int)) 180
 have h:=HH0.out.later (Bel.alloc w (.cells #[.int .i64 (d:Int),.int .i64 (an:Int)] 180))
 have HF:Hid (FrR R S w (w.alloc (.cells #[.int .i64 (d:Int),.int .i64 (an:Int)] 180))):=FrR.ofBelow (Bel.alloc _ _)
 have hRB:R≠w.heap.size:=by have:=HH0.out.cells.lt.1;omega
 generalize w.alloc (.cells #[.int .i64 (d:Int),.int .i64 (an:Int)] 180)=w1 at x0 x1 h HF ⊢
 generalize w.heap.size=B at x0 x1 hRB ⊢
 have cv:=h.cells.cv an ha
 have cd:=h.cells.cv d hd
 have cc:=h.cells.cc cn hc
 have fz:=h.frozen (14+d)
 have HH:Hid (RunAt W0 w1 R S bv vals s fr pl rv tv pv):=h
 obtain⟨y,HY⟩:∃y,Hid (s.cells cn=y):=⟨_,rfl⟩
 rw[HV.out] at cv
 rw[HY.out] at cc
 obtain⟨z,HZ⟩:∃z,Hid (s.vals d=z):=⟨_,rfl⟩
 rw[HZ.out] at cd
 have hne:2+cn≠14+d:=by omega
 clear h
 go_region_held3 (fun w'=>w'.cell? ⟨R,14+an,none⟩=some (.int .i64 (cn:Int))∧w'.cell? ⟨B,1,none⟩=some (.int .i64 (an:Int))) (go_keep) (first | (go_at_call 202;refine(cell_yes cn hc _).mono ?_;rintro e w2 ⟨rfl,hw2⟩;subst hw2))
 simp only[Exit.then]
 go_at_K
 go_wp2
 go_region_held3 (fun w'=>w'.cell? ⟨B,0,none⟩=some (.int .i64 (d:Int))∧w'.cell? ⟨R,2+cn,none⟩=some (.int .i64 y)) (first | exact⟨far_block x0 hRB,far_off cc hne⟩ | go_keep) (fail)
 simp only[Exit.then]
 go_at_K
 go_wp2
 go_ret
 refine⟨rfl,⟨rv,tv,pv,?_⟩,?_⟩
 ·rw[HY.out]
  first | exact(HH.out.setVal hd y).drew.drew | exact(HH.out.setVal hd y).drew | exact HH.out.setVal hd y
 ·refine HF.out.trans ((FrR.setR R S (14+d) (.int .i64 y) w1).trans ?_)
  first | exact FrR.refl _ _ _ | exact FrR.drew _ _ _ | exact(FrR.drew _ _ _).trans (FrR.drew _ _ _)
set_option maxHeartbeats 1000000 in
theorem load_no (d an:Nat)(ha:an<80)(hc:¬cellOk (s.vals an))(w:World)(h:RunIs W0 w R S bv vals s fr pl) :
  Calls Tryz.prog 150 #[.pointer (some ⟨R,0,none⟩),.agg #[.int .i64 (d:Int),.int .i64 (an:Int)]] w fun e w'=>e = .returned (.int .i64 2)∧RunTo W0 R S bv vals fr pl w s w':=by
 obtain⟨rv,tv,pv,h⟩:=h
 have ha2:(an:Int)<80:=by omega
 have HV:Hid (¬cellOk (s.vals an)):=hc
 clear hc
 have HH0:Hid (RunAt W0 w R S bv vals s fr pl rv tv pv):=h
 clear h
 go_enter Tryz.func150,Tryz.ntmps150
 go_wp2
 obtain⟨x0,x1⟩:=box2 w (.int .i64 (d:Int)) (.int .i64 (an:Int)) 180
 have h:=HH0.out.later (Bel.alloc w (.cells #[.int .i64 (d:Int),.int .i64 (an:Int)] 180))
 have HF:Hid (FrR R S w (w.alloc (.cells #[.int .i64 (d:Int),.int .i64 (an:Int)] 180))):=FrR.ofBelow (Bel.alloc _ _)
 have hRB:R≠w.heap.size:=by have:=HH0.out.cells.lt.1;omega
 generalize w.alloc (.cells #[.int .i64 (d:Int),.int .i64 (an:Int)] 180)=w1 at x0 x1 h HF ⊢
 generalize w.heap.size=B at x0 x1 hRB ⊢
 have cv:=h.cells.cv an ha
 have HH:Hid (RunAt W0 w1 R S bv vals s fr pl rv tv pv):=h
 obtain⟨y,HY⟩:∃y,Hid (s.vals an=y):=⟨_,rfl⟩
 rw[HY.out] at cv
 have HV2:Hid (¬cellOk y):=by
  show ¬cellOk y
  rw[←HY.out];exact HV.out
 clear h
 go_region_held3 (fun w'=>w'.cell? ⟨R,14+an,none⟩=some (.int .i64 y)∧w'.cell? ⟨B,1,none⟩=some (.int .i64 (an:Int))) (go_keep) (first | (go_at_call 202;refine(cell_no y HV2.out _).mono ?_;rintro e w2 ⟨rfl,hw2⟩;subst hw2))
 simp only[Exit.then]
 go_at_K
 go_wp2
 go_ret
 refine⟨rfl,⟨rv,tv,pv,?_⟩,?_⟩
 ·first | exact HH.out.drew | exact HH.out
 ·refine HF.out.trans ?_
  first | exact FrR.drew _ _ _ | exact FrR.refl _ _ _
set_option maxHeartbeats 1000000 in
theorem store_yes (an bn cn:Nat)(ha:an<80)(hb:bn<80)(hc:cn<8)(hv:s.vals an=(cn:Int))(w:World)(h:RunIs W0 w R S bv vals s fr pl) :
  Calls Tryz.prog 151 #[.pointer (some ⟨R,0,none⟩),.agg #[.int .i64 (an:Int),.int .i64 (bn:Int)]] w fun e w'=>e = .returned (.int .i64 0)∧RunTo W0 R S bv vals fr pl w { s with cells:=updN s.cells cn (s.vals bn) } w':=by
 obtain⟨rv,tv,pv,h⟩:=h
 have hb2:(bn:Int)<80:=by omega
 have ha2:(an:Int)<80:=by omega
 have HV:Hid (s.vals an=(cn:Int)):=hv
 clear hv
 have HH0:Hid (RunAt W0 w R S bv vals s fr pl rv tv pv):=h
 clear h
 go_enter Tryz.func151,Tryz.ntmps151
 go_wp2
 obtain⟨x0,x1⟩:=box2 w (.int .i64 (an:Int)) (.int .i64 (bn:Int)) 182
 have h:=HH0.out.later (Bel.alloc w (.cells #[.int .i64 (an:Int),.int .i64 (bn:Int)] 182))
 have HF:Hid (FrR R S w (w.alloc (.cells #[.int .i64 (an:Int),.int .i64 (bn:Int)] 182))):=FrR.ofBelow (Bel.alloc _ _)
 have hRB:R≠w.heap.size:=by have:=HH0.out.cells.lt.1;omega
 generalize w.alloc (.cells #[.int .i64 (an:Int),.int .i64 (bn:Int)] 182)=w1 at x0 x1 h HF ⊢
 generalize w.heap.size=B at x0 x1 hRB ⊢
 have cv:=h.cells.cv an ha
 have cb:=h.cells.cv bn hb
 have cc:=h.cells.cc cn hc
 have fz:=h.frozen (2+cn)
 have HH:Hid (RunAt W0 w1 R S bv vals s fr pl rv tv pv):=h
 obtain⟨y,HY⟩:∃y,Hid (s.vals bn=y):=⟨_,rfl⟩
 rw[HV.out] at cv
 rw[HY.out] at cb
 obtain⟨z,HZ⟩:∃z,Hid (s.cells cn=z):=⟨_,rfl⟩
 rw[HZ.out] at cc
 have hne:14+bn≠2+cn:=by omega
 clear h
 go_region_held3 (fun w'=>w'.cell? ⟨R,14+an,none⟩=some (.int .i64 (cn:Int))∧w'.cell? ⟨B,0,none⟩=some (.int .i64 (an:Int))) (go_keep) (first | (go_at_call 202;refine(cell_yes cn hc _).mono ?_;rintro e w2 ⟨rfl,hw2⟩;subst hw2))
 simp only[Exit.then]
 go_at_K
 go_wp2
 go_region_held3 (fun w'=>w'.cell? ⟨B,1,none⟩=some (.int .i64 (bn:Int))∧w'.cell? ⟨R,14+bn,none⟩=some (.int .i64 y)) (first | exact⟨far_block x1 hRB,far_off cb hne⟩ | go_keep) (fail)
 simp only[Exit.then]
 go_at_K
 go_wp2
 go_ret
 refine⟨rfl,⟨rv,tv,pv,?_⟩,?_⟩
 ·rw[HY.out]
  first | exact(HH.out.setCell hc y).drew.drew | exact(HH.out.setCell hc y).drew | exact HH.out.setCell hc y
 ·refine HF.out.trans ((FrR.setR R S (2+cn) (.int .i64 y) w1).trans ?_)
  first | exact FrR.refl _ _ _ | exact FrR.drew _ _ _ | exact(FrR.drew _ _ _).trans (FrR.drew _ _ _)
set_option maxHeartbeats 1000000 in
theorem store_no (an bn:Nat)(ha:an<80)(hc:¬cellOk (s.vals an))(w:World)(h:RunIs W0 w R S bv vals s fr pl) :
  Calls Tryz.prog 151 #[.pointer (some ⟨R,0,none⟩),.agg #[.int .i64 (an:Int),.int .i64 (bn:Int)]] w fun e w'=>e = .returned (.int .i64 2)∧RunTo W0 R S bv vals fr pl w s w':=by
 obtain⟨rv,tv,pv,h⟩:=h
 have ha2:(an:Int)<80:=by omega
 have HV:Hid (¬cellOk (s.vals an)):=hc
 clear hc
 have HH0:Hid (RunAt W0 w R S bv vals s fr pl rv tv pv):=h
 clear h
 go_enter Tryz.func151,Tryz.ntmps151
 go_wp2
 obtain⟨x0,x1⟩:=box2 w (.int .i64 (an:Int)) (.int .i64 (bn:Int)) 182
 have h:=HH0.out.later (Bel.alloc w (.cells #[.int .i64 (an:Int),.int .i64 (bn:Int)] 182))
 have HF:Hid (FrR R S w (w.alloc (.cells #[.int .i64 (an:Int),.int .i64 (bn:Int)] 182))):=FrR.ofBelow (Bel.alloc _ _)
 have hRB:R≠w.heap.size:=by have:=HH0.out.cells.lt.1;omega
 generalize w.alloc (.cells #[.int .i64 (an:Int),.int .i64 (bn:Int)] 182)=w1 at x0 x1 h HF ⊢
 generalize w.heap.size=B at x0 x1 hRB ⊢
 have cv:=h.cells.cv an ha
 have HH:Hid (RunAt W0 w1 R S bv vals s fr pl rv tv pv):=h
 obtain⟨y,HY⟩:∃y,Hid (s.vals an=y):=⟨_,rfl⟩
 rw[HY.out] at cv
 have HV2:Hid (¬cellOk y):=by
  show ¬cellOk y
  rw[←HY.out];exact HV.out
 clear h
 go_region_held3 (fun w'=>w'.cell? ⟨R,14+an,none⟩=some (.int .i64 y)∧w'.cell? ⟨B,0,none⟩=some (.int .i64 (an:Int))) (go_keep) (first | (go_at_call 202;refine(cell_no y HV2.out _).mono ?_;rintro e w2 ⟨rfl,hw2⟩;subst hw2))
 simp only[Exit.then]
 go_at_K
 go_wp2
 go_ret
 refine⟨rfl,⟨rv,tv,pv,?_⟩,?_⟩
 ·first | exact HH.out.drew | exact HH.out
 ·refine HF.out.trans ?_
  first | exact FrR.drew _ _ _ | exact FrR.refl _ _ _
end
def RunS.more (s:RunS)(m:Nat):RunS := { s with fuel:=s.fuel+m }
def blockDo (W:Int→Int→Int→Int)(b:BlockD)(at_:Nat)(fr:Int)(s:RunS):Int × RunS:=placesDo W b.list (enterDo b at_ fr s)
theorem tellN_succ (W:Int→Int→Int→Int)(F:FnD)(k at_:Nat)(fr:Int)(s:RunS){b:BlockD}(hb:F.blocks[at_]? = some b):tellN W F (k+1) at_ fr s =
  if (blockDo W b at_ fr s).1≠0 then((blockDo W b at_ fr s).1,0,(blockDo W b at_ fr s).2)
   else if (blockDo W b at_ fr s).2.fuel=0 then(1,0,(blockDo W b at_ fr s).2)
   else if b.term.k=3 then(0,(blockDo W b at_ fr s).2.val b.term.a,{ (blockDo W b at_ fr s).2 with fuel:=(blockDo W b at_ fr s).2.fuel-1 })
   else tellN W F k (nextDo b.term (blockDo W b at_ fr s).2).toNat at_ { (blockDo W b at_ fr s).2 with fuel:=(blockDo W b at_ fr s).2.fuel-1 }:=by
 conv=>lhs;unfold tellN
 rw[hb]
 rfl
theorem startDo_fuel (reads:List Int){fuel:Int}(h:0≤fuel):(startDo reads fuel).fuel≤5000:=by simp only[startDo];omega
end Go.Proofs.YtfnilamkapabkaaGreatDoor
