/- The model's cursor of drawn bytes: whatever the bytes, each draw returns a number within its bounds, turns nothing but the cursor's own block, and leaves a cursor. The model's drawn places and ends: whatever the bytes, some place, some end; nothing that was there is turned. The drawn program while it is made: what lies where, and what of it stays when a part is turned. The draw's small steps: a new value, room, one of the known, a new block, a place put. The draw: a place is put behind a -/
import Derived.Test.YtkbhbekfniadhaaGreatTk0
import Derived.Test.YtkbhbekfniadhaaGreatRows
import Derived.WalkKit
import Derived.ProofKit
import Derived.OpenShut
import Derived.Laws.Shifts
import Derived.Below
import Derived.Deep.QuietTactic
import Derived.BigQuiet
import Derived.Test.YtkbhbekfniadhaaGreatKIns
import Derived.Handy
import Derived.Test.YtkbhbekfniadhaaGreatKTo
import Derived.Test.YtkbhbekfniadhaaGreatKPre
import Derived.Deep.RegionLaw
import Derived.Deep.RegionWith
import Derived.BigRegion
import Derived.Maps.AppendAt
import Derived.Deep.RegionHeld3
set_option maxRecDepth 100000
set_option maxHeartbeats 16000000
namespace Go.Proofs.YtkbhbekfniadhaaGreat
open Go.ChangeShapes Go.WideShapes Go.ChangeAt Go.RowKit
set_option linter.unusedVariables false
theorem andMask (b:Int)(m:Nat)(k:Nat)(hk:k≤62)(hm:m=2 ^ k-1)(hb:(BitVec.ofInt 64 (m:Int)).toNat=m):bits .and .i64 b (m:Int)=b % ((2 ^ k:Nat):Int):=by
 have h:(BitVec.ofInt 64 b &&& BitVec.ofInt 64 (m:Int)).toNat=(BitVec.ofInt 64 b).toNat % 2 ^ k:=by
  rw[BitVec.toNat_and,hb,hm];exact Nat.and_two_pow_sub_one_eq_mod _ k
 have h2:(BitVec.ofInt 64 b).toNat=(b % 18446744073709551616).toNat:=by
  rw[BitVec.toNat_ofInt];rfl
 show IntKind.i64.wrap ((BitVec.ofInt 64 b &&& BitVec.ofInt 64 (m:Int)).toNat:Int)=_;rw[h,h2];have hd:(2:Nat) ^ k ∣ 18446744073709551616:=by
  have e:(18446744073709551616:Nat)=2 ^ 64:=by decide
  rw[e];exact Nat.pow_dvd_pow 2 (by omega)
 obtain⟨q,hq⟩:=hd;have B:(2:Nat) ^ k≤4611686018427387904:=by
  have e:(4611686018427387904:Nat)=2 ^ 62:=by decide
  rw[e];exact Nat.pow_le_pow_right (by omega) hk
 have r:0<(2:Nat) ^ k:=Nat.pow_pos (by omega);generalize hP:(2:Nat) ^ k=P at *;have e1:(((b % 18446744073709551616).toNat % P:Nat):Int)=b % (P:Int):=by
  have h0:0≤b % 18446744073709551616:=Int.emod_nonneg _ (by decide);rw[Int.natCast_emod,Int.toNat_of_nonneg h0];have t:(18446744073709551616:Int)=(P:Int)*(q:Int):=by rw[←Int.natCast_mul,←hq];rfl
  rw[t];exact Int.emod_emod_of_dvd b ⟨(q:Int),rfl⟩
 rw[e1];have h3:0≤b % (P:Int):=Int.emod_nonneg _ (by omega);have h4:b % (P:Int)<(P:Int):=Int.emod_lt_of_pos _ (by omega);simp[IntKind.wrap,IntKind.bits,IntKind.signed];omega
theorem and255 (b:Int):bits .and .i64 b 255=b % 256:=andMask b 255 8 (by omega) (by omega) (by decide)
theorem acN (b:Int):0≤bits .and .i64 b 255:=by rw[and255];omega
theorem acO (b:Int):bits .and .i64 b 255≤255:=by rw[and255];omega
def Qf (k:IntKind)(w:World)(a:Option Addr)(len cap:Nat)(zs:List Int):Prop :=
 (a=none∧len=0∧cap=0∧zs = []) ∨
 ∃x,a=some x∧len≤cap∧cap≤maxLen∧zs.length=cap∧(∀i,i<zs.length→w.cell? (x.add i)=some (.int k (zs.getD i 0)))∧∀n∈zs,(Lit.int k n).wf=true
theorem yE (b off k:Nat):((Z b off):Addr).add k=(Z b (off+k)):=by
 unfold Addr.add;split <;> simp_all
theorem Zm (x:Addr)(k:Nat):(x.add k).block=x.block:=by
 unfold Addr.add;split <;> rfl
structure Fr (p:Nat)(w w':World):Prop where
 os:w'.os=w.os
 tape:w'.tape=w.tape
 output:w'.output=w.output
 size:w.heap.size≤w'.heap.size
 block:∀k,k<w.heap.size→k≠p→w'.heap[k]?=w.heap[k]?
theorem Fr.refl (p:Nat)(w:World):Fr p w w:=⟨rfl,rfl,rfl,Nat.le_refl _,fun _ _ _=>rfl⟩
theorem Fr.trans {p:Nat}{a b c:World}(h:Fr p a b)(k:Fr p b c):Fr p a c :=
 ⟨k.os.trans h.os,k.tape.trans h.tape,k.output.trans h.output,Nat.le_trans h.size k.size,fun i hi hp=>(k.block i (Nat.lt_of_lt_of_le hi h.size) hp).trans (h.block i hi hp)⟩
theorem Fr.drew {p:Nat}{a w:World}(h:Fr p a w):Fr p a w.drew:=⟨h.os,h.tape,h.output,h.size,h.block⟩
theorem Fr.drewN {p:Nat}{a w:World}(h:Fr p a w)(n:Nat):Fr p a (w.drewN n):=⟨h.os,h.tape,h.output,h.size,h.block⟩
theorem Fr.setCell {p:Nat}{a w:World}(h:Fr p a w)(o:Nat)(u:Value):Fr p a (w.setCell (Z p o) u) :=
 h.trans ⟨rfl,rfl,rfl,by simp[World.setCell],fun k _ hp=>Below.heap_setCell _ _ _ _ hp⟩
theorem Fr.alloc {p:Nat}{a w:World}(h:Fr p a w)(o:Obj):Fr p a (w.alloc o) :=
 h.trans ⟨rfl,rfl,rfl,by simp,fun k hk _=>Below.heap_alloc _ _ _ hk⟩
theorem Fr.below {p B:Nat}{a w:World}(h:Fr p a w)(hp:B≤p)(hB:B≤a.heap.size):Below B a w :=
 ⟨h.os,h.tape,h.output,h.size,fun k hk=>h.block k (by omega) (by omega)⟩
theorem Fr.xW {p:Nat}{a w:World}(h:Below a.heap.size a w):Fr p a w :=
 ⟨h.os,h.tape,h.output,h.size,fun k hk _=>h.block k hk⟩
theorem Fr.cell {p:Nat}{a w:World}(h:Fr p a w){x:Addr}(hx:x.block<a.heap.size)(hp:x.block≠p):w.cell? x=a.cell? x:=World.cell?_of_block (w:=a) (h.block x.block hx hp)
theorem Fr.frozen {p:Nat}{a w:World}(h:Fr p a w){x:Addr}(hx:x.block<a.heap.size)(hp:x.block≠p):w.frozen? x=a.frozen? x:=World.frozen?_of_block (w:=a) (h.block x.block hx hp)
theorem Qf.lt {k:IntKind}{w:World}{a:Option Addr}{len cap:Nat}{zs:List Int}(h:Qf k w a len cap zs):∀x,a=some x→0<cap→x.block<w.heap.size:=by
 intro x hx hc;rcases h with ⟨h,_⟩ | ⟨y,h,h1,h2,h3,hcell,hw⟩
 ·rw[h] at hx;cases hx
 ·rw[h] at hx;cases hx
  have h0:=World.block_lt_of_cell? w _ (hcell 0 (by omega));rw[Zm] at h0;exact h0
theorem Qf.keep {p:Nat}{k:IntKind}{w w':World}{a:Option Addr}{len cap:Nat}{zs:List Int}(h:Qf k w a len cap zs)(hp:∀x,a=some x→0<cap→x.block≠p)(hf:Fr p w w'):Qf k w' a len cap zs:=by
 rcases h with h | ⟨x,rfl,h1,h2,h3,hc,hw⟩
 ·exact .inl h
 ·refine .inr ⟨x,rfl,h1,h2,h3,fun i hi=>?_,hw⟩;have r:=hc i hi;rw[hf.cell (x:=x.add i) (World.block_lt_of_cell? w _ r) (by rw[Zm];exact hp x rfl (by omega))];exact r
def Cur (w:World)(p:Nat):Prop := ∃(a:Option Addr) (len cap:Nat) (zs:List Int) (i h:Int),
 w.cell? (Z p 0)=some (.slice a len cap)∧w.cell? (Z p 1)=some (vi i)∧w.cell? (Z p 2)=some (vi h) ∧
 w.frozen? (Z p 1)=false∧w.frozen? (Z p 2)=false∧0≤i∧Qf .u8 w a len cap zs∧(∀x,a=some x→0<cap→x.block<p)
theorem Cur.later {w w':World}{p:Nat}(h:Cur w p)(hf:Below w.heap.size w w'):Cur w' p:=by
 have r:=hf;obtain⟨a,len,cap,zs,i,h,c0,c1,c2,f1,f2,hi,hr,hx⟩:=h;have hb:p<w.heap.size:=World.block_lt_of_cell? w _ c0;refine⟨a,len,cap,zs,i,h,?_,?_,?_,?_,?_,hi,hr.keep (p:=p) (fun x h1 h2=>Nat.ne_of_lt (hx x h1 h2)) (Fr.xW hf),hx⟩
 ·rw[hf.cell (p:=(Z p 0)) hb];exact c0
 ·rw[hf.cell (p:=(Z p 1)) hb];exact c1
 ·rw[hf.cell (p:=(Z p 2)) hb];exact c2
 ·rw[hf.frozen (p:=(Z p 1)) hb];exact f1
 ·rw[hf.frozen (p:=(Z p 2)) hb];exact f2
theorem agK {w:World}{p:Nat}{a:Option Addr}{len cap:Nat}{zs:List Int}{i h:Int}(h':Int)
  (c0:w.cell? (Z p 0)=some (.slice a len cap)) (c1:w.cell? (Z p 1)=some (vi i)) (c2:w.cell? (Z p 2)=some (vi h))
  (f1:w.frozen? (Z p 1)=false) (f2:w.frozen? (Z p 2)=false) (hi:0≤i) (hr:Qf .u8 w a len cap zs) (hx:∀x,a=some x→0<cap→x.block<p) :
  Cur (w.setCell (Z p 2) (vi h')) p:=by
 refine⟨a,len,cap,zs,i,h',?_,?_,?_,?_,?_,hi,hr.keep (fun x h1 h2=>Nat.ne_of_lt (hx x h1 h2)) ((Fr.refl p w).setCell 2 _),hx⟩
 ·rw[World.cell?_setCell_other _ _ _ _ (by simp)];exact c0
 ·rw[World.cell?_setCell_other _ _ _ _ (by simp)];exact c1
 ·exact World.cell?_setCell_same _ _ _ c2
 ·simpa using f1
 ·simpa using f2
theorem aeH (w:World)(a:Option Addr)(len cap:Nat)(zs:List Int)(h:Int)(t:TypeId)(hr:Qf .u8 w a len cap zs) :
  Cur (w.alloc (.cells #[.slice a len cap,vi 0,vi h] t)) w.heap.size:=by
 refine⟨a,len,cap,zs,0,h,?_,?_,?_,?_,?_,by omega,hr.keep (p:=w.heap.size) (fun x e c=>Nat.ne_of_lt (hr.lt x e c)) ((Fr.refl _ w).alloc _),fun x e c=>hr.lt x e c⟩
 ·simp
 ·simp
 ·simp
 ·simp
 ·simp
theorem Cur.below {w w':World}{p lo:Nat}(h:Cur w p)(hp:p<lo)(hf:Below lo w w'):Cur w' p:=by
 obtain⟨a,len,cap,zs,i,h,c0,c1,c2,f1,f2,hi,hr,hx⟩:=h;refine⟨a,len,cap,zs,i,h,?_,?_,?_,?_,?_,hi,?_,hx⟩
 ·rw[hf.cell (p:=(Z p 0)) hp];exact c0
 ·rw[hf.cell (p:=(Z p 1)) hp];exact c1
 ·rw[hf.cell (p:=(Z p 2)) hp];exact c2
 ·rw[hf.frozen (p:=(Z p 1)) hp];exact f1
 ·rw[hf.frozen (p:=(Z p 2)) hp];exact f2
 ·rcases hr with hr | ⟨x,rfl,h1,h2,h3,hc,hw⟩
  ·exact .inl hr
  ·refine .inr ⟨x,rfl,h1,h2,h3,fun j hj=>?_,hw⟩;have r:=hx x rfl (by omega);rw[hf.cell (p:=x.add j) (by rw[Zm];omega)];exact hc j hj
theorem Cur.lt {w:World}{p:Nat}(h:Cur w p):p<w.heap.size:=by
 obtain⟨a,len,cap,zs,i,h,c0,_⟩:=h;exact World.block_lt_of_cell? w _ c0
theorem Fr.yL {p:Nat}{a w:World}(h:Fr p a w)(hp:p≤a.heap.size):Below p a w:=h.below (Nat.le_refl _) hp
theorem Cur.drewN {w:World}{p:Nat}(h:Cur w p)(n:Nat):Cur (w.drewN n) p:=h
theorem Cur.step {w:World}{p:Nat}(h:Cur w p)(i':Int)(hi':0≤i'):Cur (w.setCell (Z p 1) (vi i')) p:=by
 obtain⟨a,len,cap,zs,i,h,c0,c1,c2,f1,f2,hi,hr,hx⟩:=h;refine⟨a,len,cap,zs,i',h,?_,?_,?_,?_,?_,hi',hr.keep (fun x h1 h2=>Nat.ne_of_lt (hx x h1 h2)) ((Fr.refl p w).setCell 1 _),hx⟩
 ·rw[World.cell?_setCell_other _ _ _ _ (by simp)];exact c0
 ·exact World.cell?_setCell_same _ _ _ c1
 ·rw[World.cell?_setCell_other _ _ _ _ (by simp)];exact c2
 ·simpa using f1
 ·simpa using f2
theorem QG (p:Nat)(w:World)(hc:Cur w p) :
  Calls Tryz.prog 76 #[.pointer (some (Z p 0))] w fun e w'=>∃x:Int,e=.returned (vi x)∧0≤x∧x≤255∧Fr p w w'∧Cur w' p:=by
 obtain⟨a,len,cap,zs,i,h,c0,c1,c2,f1,f2,hi0,hr,hx⟩:=hc;by_cases hi:(len:Int)≤i
 ·have hw:=fun h'=>agK h' c0 c1 c2 f1 f2 hi0 hr hx
  have HW:=hw;clear hr hx hw;go_enter Tryz.func76,Tryz.ntmps76
  go_wp2
  go_quiet (fail)
  go_wp2
  go_quiet (fail)
  go_wp2;go_ret;exact⟨_,rfl,acN _,acO _,(((Fr.refl p w).setCell 2 _).drewN _).drewN _,((HW _).drewN _).drewN _⟩
 ·obtain⟨k,rfl⟩:=Int.eq_ofNat_of_zero_le hi0;have J:(k:Int)<(len:Int):=by omega
  have HW:=fun h'=>agK h' c0 c1 c2 f1 f2 hi0 hr hx
  rcases hr with ⟨rfl,rfl,rfl,rfl⟩ | ⟨x,rfl,hl,hm,hz,hcell,hwz⟩
  ·omega
  ·obtain⟨b,off,spot⟩:=x;have t:=hcell 0 (by omega);have r:spot=none:=by simpa [Addr.add] using World.cell?_spot t
   subst r;have I:w.cell? (Z b (off+k))=some (.int .u8 (zs.getD k 0)):=by rw[←yE];exact hcell k (by omega)
   have G:b≠p:=Nat.ne_of_lt (hx _ rfl (by omega));have H:¬p=b:=fun e=>G e.symm
   have B:(k:Int)≤9223372036854775806:=by unfold maxLen at hm;omega
   clear hcell hwz hx t hi hi0 hz;generalize zs.getD k 0=z at *;go_enter Tryz.func76,Tryz.ntmps76
   go_wp2
   go_quiet (fail)
   go_wp2
   go_quiet (fail)
   go_wp2
   go_quiet (fail)
   go_wp2;go_ret;exact⟨_,rfl,acN _,acO _,(((Fr.refl p w).setCell 2 _).drewN _).setCell 1 _,((HW _).drewN _).step _ (by omega)⟩
theorem jH (p:Nat)(n:Int)(w:World)(hc:Cur w p) :
  Calls Tryz.prog 48 #[.pointer (some (Z p 0)),vi n] w fun e w'=>∃x:Int,e=.returned (vi x)∧0≤x∧(0<n→x<n)∧(n≤0→x=0)∧Fr p w w'∧Cur w' p:=by
 by_cases h0:n≤0
 ·go_enter Tryz.func48,Tryz.ntmps48
  go_wp2;go_ret;exact⟨_,rfl,by omega,by omega,by omega,Fr.refl _ _,hc⟩
 ·have h:0<n:=by omega
  by_cases h1:n≤256
  ·go_enter Tryz.func48,Tryz.ntmps48
   go_wp2_with fail
   refine(QG p _ hc).mono ?_;rintro e w1 ⟨x,rfl,hx0,hx1,hf1,hc1⟩;go_wp2;go_ret;exact⟨_,rfl,Int.emod_nonneg _ (by omega),fun _=>Int.emod_lt_of_pos _ h,by omega,hf1,hc1⟩
  ·go_enter Tryz.func48,Tryz.ntmps48
   go_wp2_with fail
   refine(QG p _ hc).mono ?_;rintro e w1 ⟨x1,rfl,hx0,hx1,hf1,hc1⟩;go_wp2_with fail
   refine(QG p _ hc1).mono ?_;rintro e w2 ⟨x2,rfl,hx20,hx21,hf2,hc2⟩;go_wp2_with fail
   refine(QG p _ hc2).mono ?_;rintro e w3 ⟨x3,rfl,hx30,hx31,hf3,hc3⟩;go_wp2_with fail
   refine(QG p _ hc3).mono ?_;rintro e w4 ⟨x4,rfl,hx40,hx41,hf4,hc4⟩;go_wp2;go_ret;exact⟨_,rfl,Int.emod_nonneg _ (by omega),fun _=>Int.emod_lt_of_pos _ h,by omega,((hf1.trans hf2).trans hf3).trans hf4,hc4⟩
theorem YS (p:Nat)(n:Int)(w:World)(hc:Cur w p) :
  Calls Tryz.prog 63 #[.pointer (some (Z p 0)),vi n] w fun e w'=>∃b:Bool,e=.returned (.bool b)∧Fr p w w'∧Cur w' p:=by
 go_enter Tryz.func63,Tryz.ntmps63
 go_wp2_with fail
 refine(jH p n _ hc).mono ?_;rintro e w1 ⟨x,rfl,hx0,hx1,hx2,hf1,hc1⟩;go_wp2;go_ret;exact⟨_,rfl,hf1,hc1⟩
theorem aiK (a:Option Addr)(len cap:Nat)(zs:List Int)(w:World)(hr:Qf .u8 w a len cap zs) :
  Calls Tryz.prog 37 #[.slice a len cap] w fun e w'=>e=.returned (.pointer (some (Z w.heap.size 0)))∧Below w.heap.size w w'∧Cur w' w.heap.size∧w'.heap.size=w.heap.size+1:=by
 have HR:Hid (Qf .u8 w a len cap zs):=hr;have hlen:len≤9223372036854775807:=by
  rcases hr with ⟨_,rfl,_,_⟩ | ⟨x,_,hl,hm,_,_,_⟩
  ·omega
  ·unfold maxLen at hm;omega
 have h:∀k,k<len→∃b off z,a=some (Z b off)∧w.cell? (Z b (off+k))=some (.int .u8 z):=by
  intro k hk;rcases hr with ⟨rfl,rfl,rfl,rfl⟩ | ⟨x,rfl,hl,hm,hz,h,hwz⟩
  ·omega
  ·obtain⟨b,off,spot⟩:=x;have t:=h 0 (by omega);have r:spot=none:=by simpa [Addr.add] using World.cell?_spot t
   subst r;exact⟨b,off,zs.getD k 0,rfl,by rw[←yE];exact h k (by omega)⟩
 have HC:Hid (∀k,k<len→∃b off z,a=some (Z b off)∧w.cell? (Z b (off+k))=some (.int .u8 z)):=h;clear hr h;go_enter Tryz.func37,Tryz.ntmps37
 go_wp2
 go_loop [3,4] (fun hv iv=>∃k:Nat,k≤len∧iv=vi k∧∃z:Int,hv=vi z) (fun _ iv=>len-(intOf iv).toNat)
 case atStart=>exact⟨0,Nat.zero_le _,rfl,_,rfl⟩
 case round=>
  obtain⟨k,hk,rfl,z,rfl⟩:=hrel;by_cases B:(k:Int)<(len:Int)
  ·by_cases h4:(k:Int)<4000
   ·obtain⟨b,off,y,rfl,hy⟩:=HC.out k (by omega);go_wp2
    go_round
    case rel=>exact⟨k+1,by omega,by go_num,_,rfl⟩
    case measure=>simp[intOf];omega
   ·go_wp2;go_ret;exact⟨rfl,(Below.refl _ _).alloc (Nat.le_refl _) _,aeH _ _ _ _ _ _ _ HR.out,by simp⟩
  ·go_wp2;go_ret;exact⟨rfl,(Below.refl _ _).alloc (Nat.le_refl _) _,aeH _ _ _ _ _ _ _ HR.out,by simp⟩
theorem yt (p lb:Nat)(zs:List Int)(n:Nat)(w:World)(hc:Cur w p)(hne:lb≠p)(hl:zs.length=n)(hn:0<n)(hm:n≤1000)
  (hcell:∀j,j<n→w.cell? (Z lb j)=some (vi (zs.getD j 0))) :
  Calls Tryz.prog 86 #[.pointer (some (Z p 0)),sq lb 0 n n] w fun e w'=>∃x:Int,e=.returned (vi x)∧x∈zs∧Fr p w w'∧Cur w' p:=by
 have HC:Hid (∀j,j<n→w.cell? (Z lb j)=some (vi (zs.getD j 0))):=hcell;clear hcell;have HM:Hid (∀k,k<n→zs.getD k 0∈zs):=by
  intro k hk;rw[List.getD_eq_getElem?_getD,List.getElem?_eq_getElem (by omega)];exact List.getElem_mem (by omega)
 clear hl;go_enter Tryz.func86,Tryz.ntmps86
 go_wp2_with fail
 refine(jH p _ _ hc).mono ?_;rintro e w1 ⟨x,rfl,hx0,hx1,hx2,hf1,hc1⟩;obtain⟨k,rfl⟩:=Int.eq_ofNat_of_zero_le hx0;have hk:(k:Int)<(n:Int):=hx1 (by omega);have r:k<n:=by omega
 have t:=HM.out k r;have hy:w1.cell? (Z lb k)=some (vi (zs.getD k 0)):=by
  have h:=HC.out k r;rw[hf1.cell (x:=(Z lb k)) (World.block_lt_of_cell? w _ h) hne];exact h
 clear hx1 hx2;generalize zs.getD k 0=y at *;go_wp2;go_ret;exact⟨_,rfl,t,hf1,hc1⟩
structure Bk where
 pv:Value
 pn:Nat
 lv:Value
 ln:Nat
 k:Int
 a:Int
 t:Int
 e:Int
def Bk.cells (b:Bk):List Value := [b.pv,b.lv,vi b.k,vi b.a,vi b.t,vi b.e]
def bkCells : List Bk→List Value
 | []=>[]
 | b::bs=>b.cells ++ bkCells bs
theorem KT : ∀xs ys:List Bk,bkCells (xs ++ ys)=bkCells xs ++ bkCells ys
 | [],ys=>rfl
 | x::xs,ys=>by
  show x.cells ++ bkCells (xs ++ ys)=x.cells ++ bkCells xs ++ bkCells ys;rw[KT xs ys,List.append_assoc]
theorem KF : ∀(bs:List Bk) (i j:Nat) (b:Bk),bs[i]?=some b→j<6→(bkCells bs)[i*6+j]?=b.cells[j]?
 | [],i,j,b,h,_=>by simp at h
 | x::bs,0,j,b,h,hj=>by
  simp at h;subst h;show(x.cells ++ bkCells bs)[0*6+j]?=_;rw[List.getElem?_append_left (by simp[Bk.cells];omega)];simp
 | x::bs,i+1,j,b,h,hj=>by
  show(x.cells ++ bkCells bs)[(i+1)*6+j]?=_;have hl:x.cells.length=6:=rfl;rw[List.getElem?_append_right (by omega),hl];have e:(i+1)*6+j-6=i*6+j:=by omega
  rw[e];exact KF bs i j b (by simpa using h) hj
theorem Zn (bs:List Bk)(i j:Nat)(b b':Bk)(u:Value)(hb:bs[i]?=some b)(hj:j<6)(hc:b'.cells=b.cells.set j u):(bkCells bs).set (i*6+j) u=bkCells (bs.set i b'):=by
 induction bs generalizing i with
 | nil=>simp at hb
 | cons x bs ih=>
  cases i with
  | zero=>
   simp at hb;subst hb;show(x.cells ++ bkCells bs).set (0*6+j) u=b'.cells ++ bkCells bs;rw[hc,List.set_append_left _ _ (by simp[Bk.cells];omega)];simp
  | succ i=>
   have hl:x.cells.length=6:=rfl;show(x.cells ++ bkCells bs).set ((i+1)*6+j) u=x.cells ++ bkCells (bs.set i b');rw[List.set_append_right _ _ (by omega),hl];have e:(i+1)*6+j-6=i*6+j:=by omega
   rw[e,ih i (by simpa using hb)]
def ym (w:World)(lo:Nat)(v:Value)(n:Nat):Prop := ∃xs,w.ownsRow lo 47 5 v n xs∧(∀x∈xs,∃z,x=vi z)∧n≤24
def kL (w:World)(lo:Nat)(v:Value)(n:Nat):Prop :=
 ∃a cap,v=.slice a n cap∧n≤cap∧n≤16∧(0<n→∃b off cur,a=some (Z b off)∧lo≤b∧w.heap[b]?=some (.cells cur 143 (0,0))∧∀j,j<n*2→∃z,cur[off+j]?=some (vi z))
def xG (w:World)(lo:Nat)(v:Value)(n:Nat):Prop:=kL w lo v n∧0<n
def qJ (w:World)(lo:Nat)(v:Value)(n:Nat):Prop :=
 ∃xs,w.ownsRow lo 107 2 v n xs∧(∀i,i<n→∃d av al,xs[i*2]?=some (vi d)∧xs[i*2+1]?=some av∧xG w lo av al)∧n≤4
def KU (u v:Value):Prop := ∀k,u.ownBlock=some k→v.ownBlock≠some k
structure jE (w:World)(C lo G:Nat)(bv:Value)(bs:List Bk)(vals:Int):Prop where
 box:w.heap[G]?=some (.cells #[.pointer (some (Z C 0)),bv,vi vals] 152 (0,0))
 row:w.ownsRow lo 43 6 bv bs.length (bkCells bs)
 ins:∀(i:Nat) (b:Bk),bs[i]?=some b→ym w lo b.lv b.ln
 phi:∀(i:Nat) (b:Bk),bs[i]?=some b→qJ w lo b.pv b.pn
 apL:∀(i j:Nat) (x y:Bk),i≠j→bs[i]?=some x→bs[j]?=some y→KU x.lv y.lv
 apP:∀(i j:Nat) (x y:Bk),i≠j→bs[i]?=some x→bs[j]?=some y→KU x.pv y.pv
theorem jo {w:World}{base:Nat}{e:TypeId}{s:Nat}{v:Value}{n:Nat}{xs:List Value}(h:w.ownsRow base e s v n xs):∀r,v.ownBlock=some r→∃c,w.heap[r]?=some (.cells c e (0,0)):=by
 intro r hr;rcases h.2 with ⟨rfl,_⟩ | ⟨g,cap,cur,rfl,_,hg,_⟩
 ·simp[Value.ownBlock] at hr
 ·obtain rfl:g=r:=by simpa [Value.ownBlock] using hr
  exact⟨_,hg⟩
def qQ (w:World)(row:Option Nat)(e:TypeId):Prop := ∀r,row=some r→∃c T z,w.heap[r]?=some (.cells c T z)∧T≠e
theorem qQ.of {w:World}{base:Nat}{e:TypeId}{s:Nat}{v:Value}{n:Nat}{xs:List Value}(h:w.ownsRow base e s v n xs){e':TypeId}(hne:e≠e'):qQ w v.ownBlock e':=fun r hr=>by
 obtain⟨c,hc⟩:=jo h r hr;exact⟨c,e,_,hc,hne⟩
theorem j8 {w w':World}{row:Option Nat}{base:Nat}{e:TypeId}{s:Nat}{v:Value}{n:Nat}{xs:List Value}(h:w.ownsRow base e s v n xs)(hg:w.grownBy w' row)(ho:qQ w row e):w'.ownsRow base e s v n xs:=by
 refine World.ownsRow.kept h hg ?_;rcases h.2 with ⟨rfl,_⟩ | ⟨g,cap,cur,rfl,_,hc,_⟩
 ·exact .inl rfl
 ·refine .inr fun e'=>?_
  obtain⟨c,T,z,h1,h2⟩:=ho g (by simpa [Value.ownBlock] using e'.symm);rw[hc] at h1;cases h1
  exact h2 rfl
theorem kL.other {w w':World}{row:Option Nat}{lo:Nat}{v:Value}{n:Nat}(h:kL w lo v n)(hg:w.grownBy w' row)(ho:qQ w row 143):kL w' lo v n:=by
 obtain⟨a,cap,rfl,h0,h1,h2⟩:=h;refine⟨a,cap,rfl,h0,h1,fun hp=>?_⟩;obtain⟨b,off,cur,rfl,hb,hc,hd⟩:=h2 hp;refine⟨b,off,cur,rfl,hb,(hg.block b (aI hc).1 (fun e=>?_)).trans hc,hd⟩;obtain⟨c,T,z,h3,h4⟩:=ho b e.symm;rw[hc] at h3;cases h3
 exact h4 rfl
theorem xG.other {w w':World}{row:Option Nat}{lo:Nat}{v:Value}{n:Nat}(h:xG w lo v n)(hg:w.grownBy w' row)(ho:qQ w row 143):xG w' lo v n:=⟨h.1.other hg ho,h.2⟩
theorem ym.other {w w':World}{row:Option Nat}{lo:Nat}{v:Value}{n:Nat}(h:ym w lo v n)(hg:w.grownBy w' row)(ho:qQ w row 47):ym w' lo v n:=by
 obtain⟨xs,h1,h2⟩:=h;exact⟨xs,j8 h1 hg ho,h2⟩
theorem ym.apart {w w':World}{row:Option Nat}{lo:Nat}{v:Value}{n:Nat}(h:ym w lo v n)(hg:w.grownBy w' row)(ho:∀r,row=some r→v.ownBlock≠some r):ym w' lo v n:=by
 obtain⟨xs,h1,h2⟩:=h;refine⟨xs,World.ownsRow.kept h1 hg ?_,h2⟩;cases hv:v.ownBlock with
 | none=>exact .inl rfl
 | some r=>exact .inr fun e=>ho r e.symm hv
theorem qJ.other {w w':World}{row:Option Nat}{lo:Nat}{v:Value}{n:Nat}(h:qJ w lo v n)(hg:w.grownBy w' row)(ho:qQ w row 107)(ha:qQ w row 143):qJ w' lo v n:=by
 obtain⟨xs,h1,h2,h3⟩:=h;refine⟨xs,j8 h1 hg ho,fun i hi=>?_,h3⟩;obtain⟨d,av,al,e1,e2,e3⟩:=h2 i hi;exact⟨d,av,al,e1,e2,e3.other hg ha⟩
theorem qJ.apart {w w':World}{row:Option Nat}{lo:Nat}{v:Value}{n:Nat}(h:qJ w lo v n)(hg:w.grownBy w' row)(ho:∀r,row=some r→v.ownBlock≠some r)(ha:qQ w row 143):qJ w' lo v n:=by
 obtain⟨xs,h1,h2,h3⟩:=h;refine⟨xs,World.ownsRow.kept h1 hg ?_,fun i hi=>?_,h3⟩
 ·cases hv:v.ownBlock with
  | none=>exact .inl rfl
  | some r=>exact .inr fun e=>ho r e.symm hv
 ·obtain⟨d,av,al,e1,e2,e3⟩:=h2 i hi;exact⟨d,av,al,e1,e2,e3.other hg ha⟩
def ju (lo:Nat)(w w':World):Prop:=w.heap.size≤w'.heap.size∧∀k,lo≤k→k<w.heap.size→w'.heap[k]?=w.heap[k]?
theorem ju.fr {w w':World}{C lo:Nat}(h:Fr C w w')(hC:C<lo):ju lo w w':=⟨h.size,fun k hk h1=>h.block k h1 (by omega)⟩
theorem ju.later {w w':World}{lo:Nat}(h:Below w.heap.size w w'):ju lo w w':=⟨h.size,fun k _ h1=>h.block k h1⟩
theorem jq {w w':World}{lo:Nat}{e:TypeId}{s:Nat}{v:Value}{n:Nat}{xs:List Value}(h:w.ownsRow lo e s v n xs)(hk:ju lo w w'):w'.ownsRow lo e s v n xs:=by
 obtain⟨h0,h1⟩:=h;refine⟨h0,?_⟩;rcases h1 with h1 | ⟨g,cap,cur,rfl,hlo,hg,h2⟩
 ·exact .inl h1
 ·exact .inr ⟨g,cap,cur,rfl,hlo,(hk.2 g hlo (aI hg).1).trans hg,h2⟩
theorem kL.lo {w w':World}{lo:Nat}{v:Value}{n:Nat}(h:kL w lo v n)(hk:ju lo w w'):kL w' lo v n:=by
 obtain⟨a,cap,rfl,h0,h1,h2⟩:=h;refine⟨a,cap,rfl,h0,h1,fun hp=>?_⟩;obtain⟨b,off,cur,rfl,hb,hc,hd⟩:=h2 hp;exact⟨b,off,cur,rfl,hb,(hk.2 b hb (aI hc).1).trans hc,hd⟩
theorem xG.lo {w w':World}{lo:Nat}{v:Value}{n:Nat}(h:xG w lo v n)(hk:ju lo w w'):xG w' lo v n:=⟨h.1.lo hk,h.2⟩
theorem jE.lo {w w':World}{C lo G:Nat}{bv:Value}{bs:List Bk}{vals:Int}(h:jE w C lo G bv bs vals)(hG:lo≤G)(hk:ju lo w w'):jE w' C lo G bv bs vals:=by
 refine⟨(hk.2 G hG (aI h.box).1).trans h.box,jq h.row hk,fun i b hb=>?_,fun i b hb=>?_,h.apL,h.apP⟩
 ·obtain⟨xs,h1,h2⟩:=h.ins i b hb;exact⟨xs,jq h1 hk,h2⟩
 ·obtain⟨xs,h1,h2,h3⟩:=h.phi i b hb;refine⟨xs,jq h1 hk,fun j hj=>?_,h3⟩;obtain⟨d,av,al,e1,e2,e3⟩:=h2 j hj;exact⟨d,av,al,e1,e2,e3.lo hk⟩
structure DSt (w:World)(C lo G:Nat)(bs:List Bk):Prop where
 hC:C<lo
 hG:lo≤G
 cur:Cur w C
 gen:∃bv vals,jE w C lo G bv bs vals
structure FrD (C lo G:Nat)(w w':World):Prop where
 bel:Below C w w'
 block:∀k o,lo≤k→w.heap[k]?=some o→k≠G→(∀c t z,o=.cells c t z→t≠43∧t≠47∧t≠107)→w'.heap[k]?=some o
theorem FrD.refl (C lo G:Nat)(w:World):FrD C lo G w w:=⟨Below.refl _ _,fun _ _ _ h _ _=>h⟩
theorem FrD.trans {C lo G:Nat}{a b c:World}(h:FrD C lo G a b)(k:FrD C lo G b c):FrD C lo G a c :=
 ⟨h.bel.trans k.bel,fun i o h1 h2 h3 h4=>k.block i o h1 (h.block i o h1 h2 h3 h4) h3 h4⟩
theorem FrD.fr {C lo G:Nat}{w w':World}(h:Fr C w w')(hC:C<lo)(hl:C<w.heap.size):FrD C lo G w w' :=
 ⟨h.yL (by omega),fun k o h1 h2 _ _=>(h.block k (aI h2).1 (by omega)).trans h2⟩
theorem FrD.later {C lo G:Nat}{w w':World}(h:Below w.heap.size w w')(hl:C<w.heap.size):FrD C lo G w w' :=
 ⟨h.mono (by omega),fun k o h1 h2 _ _=>(h.block k (aI h2).1).trans h2⟩
theorem FrD.Kf {C lo G:Nat}{w w':World}{row:Option Nat}(h:w.grownBy w' row)(hC:C<lo)(hl:C<w.heap.size)(hr:∀r,row=some r→lo≤r∧(r=G∨∃c T z,w.heap[r]?=some (.cells c T z)∧(T=43∨T=47∨T=107))):FrD C lo G w w':=by
 refine⟨(Below.refl C w).grown h (by omega) (fun j hj=>by have:=(hr j hj).1;omega),fun k o h1 h2 h3 h4=>(h.block k (aI h2).1 (fun e=>?_)).trans h2⟩;rcases(hr k e.symm).2 with e1 | ⟨c,T,z,e1,e2⟩
 ·exact h3 e1
 ·rw[h2] at e1;cases e1
  have:=h4 c T z rfl;rcases e2 with rfl|rfl|rfl
  ·exact this.1 rfl
  ·exact this.2.1 rfl
  ·exact this.2.2 rfl
theorem FrD.ints {C lo G:Nat}{w w':World}{v:Value}{l:List Int}(h:FrD C lo G w w')(ho:ja w lo v l)(hG:∀c,w.heap[G]?≠some (.cells c 3 (0,0))):ja w' lo v l:=by
 obtain⟨h0,h1⟩:=ho;refine⟨h0,?_⟩;rcases h1 with h1 | ⟨g,cap,cur,rfl,hlo,hg,h2⟩
 ·exact .inl h1
 ·refine .inr ⟨g,cap,cur,rfl,hlo,h.block g _ hlo hg (fun e=>?_) (fun c t z e=>?_),h2⟩
  ·subst e;exact hG _ hg
  ·cases e
   decide
theorem DSt.draw {w w':World}{C lo G:Nat}{bs:List Bk}(h:DSt w C lo G bs)(hf:Fr C w w')(hc:Cur w' C):DSt w' C lo G bs:=by
 obtain⟨bv,vals,hg⟩:=h.gen;exact⟨h.hC,h.hG,hc,bv,vals,hg.lo h.hG (ju.fr hf h.hC)⟩
theorem DSt.later {w w':World}{C lo G:Nat}{bs:List Bk}(h:DSt w C lo G bs)(hf:Below w.heap.size w w'):DSt w' C lo G bs:=by
 obtain⟨bv,vals,hg⟩:=h.gen;exact⟨h.hC,h.hG,h.cur.later hf,bv,vals,hg.lo h.hG (ju.later hf)⟩
theorem DSt.xx {w:World}{C lo G:Nat}{bs:List Bk}(h:DSt w C lo G bs):G<w.heap.size:=by
 obtain⟨_,_,hg⟩:=h.gen;exact(aI hg.box).1
theorem jE.cells {w:World}{C lo G:Nat}{bv:Value}{bs:List Bk}{vals:Int}(h:jE w C lo G bv bs vals) :
  w.cell? (Z G 0)=some (.pointer (some (Z C 0)))∧w.cell? (Z G 1)=some bv∧w.cell? (Z G 2)=some (vi vals)∧w.frozen? (Z G 1)=false∧w.frozen? (Z G 2)=false:=by
 refine⟨?_,?_,?_,?_,?_⟩ <;> simp[World.cell?,World.frozen?,h.box]
theorem jE.slice {w:World}{C lo G:Nat}{bv:Value}{bs:List Bk}{vals:Int}(h:jE w C lo G bv bs vals):∃a cap,bv=.slice a bs.length cap:=by
 rcases h.row.2 with ⟨rfl,e⟩ | ⟨g,cap,cur,rfl,_⟩
 ·exact⟨none,0,by rw[e]⟩
 ·exact⟨_,_,rfl⟩
theorem jE.aeI {w:World}{C lo G:Nat}{bv:Value}{bs:List Bk}{vals:Int}(h:jE w C lo G bv bs vals){e:TypeId}(he:152≠e):qQ w (some G) e:=fun r hr=>by
 cases hr
 exact⟨_,_,_,h.box,he⟩
theorem jE.setBox {w:World}{C lo G:Nat}{bv:Value}{bs:List Bk}{vals:Int}(h:jE w C lo G bv bs vals)(j:Nat)(u bv':Value)(vals':Int)(hc:(#[Value.pointer (some (Z C 0)),bv,vi vals]:Array Value).setIfInBounds j u = #[.pointer (some (Z C 0)),bv',vi vals']) :
  (w.setCell (Z G j) u).heap[G]?=some (.cells #[.pointer (some (Z C 0)),bv',vi vals'] 152 (0,0)):=by
 obtain⟨r,hk⟩:=aI h.box;show(w.heap.modify G _)[G]?=_;rw[Array.getElem?_eq_getElem (by rw[Array.size_modify];exact r),Array.getElem_modify_self,hk];simp only[Option.isSome_none,Bool.false_eq_true,if_false,hc]
theorem qX (W:World)(g o:Nat)(v:Value):W.grownBy (W.setCell (Z g o) v) (some g) :=
 ⟨rfl,rfl,rfl,by simp[World.setCell],fun k _ hk=>Below.heap_setCell _ _ _ k (fun e=>hk (by rw[e]))⟩
theorem jE.setVals {w:World}{C lo G:Nat}{bv:Value}{bs:List Bk}{vals:Int}(h:jE w C lo G bv bs vals)(x:Int):jE (w.setCell (Z G 2) (vi x)) C lo G bv bs x:=by
 have hg:=qX w G 2 (vi x);exact⟨h.setBox 2 _ bv x rfl,j8 h.row hg (h.aeI (by decide)),fun i b hb=>(h.ins i b hb).other hg (h.aeI (by decide)),fun i b hb=>(h.phi i b hb).other hg (h.aeI (by decide)) (h.aeI (by decide)),h.apL,h.apP⟩
theorem FrD.setG {C lo G:Nat}{w:World}(hC:C<lo)(hG:lo≤G)(hl:C<w.heap.size)(j:Nat)(u:Value):FrD C lo G w (w.setCell (Z G j) u) :=
 FrD.Kf (qX w G j u) hC hl (fun r hr=>by cases hr;exact⟨hG,.inl rfl⟩)
def SomeBool (w:World)(e:Ending)(w':World):Prop := ∃b:Bool,e=.returned (.bool b)∧w'=w
theorem kU (C lo G:Nat)(bs:List Bk)(w:World)(h:DSt w C lo G bs) :
  Calls Tryz.prog 104 #[.pointer (some (Z G 0))] w fun e w'=>∃d:Int,e=.returned (vi d)∧DSt w' C lo G bs∧FrD C lo G w w':=by
 have H:Hid (DSt w C lo G bs):=h;obtain⟨bv,vals,hg⟩:=h.gen;have HG:Hid (jE w C lo G bv bs vals):=hg;obtain⟨c0,c1,c2,f1,f2⟩:=hg.cells;clear h hg;go_enter Tryz.func104,Tryz.ntmps104
 go_wp2;go_ret;refine⟨_,rfl,⟨H.out.hC,H.out.hG,?_,bv,_,HG.out.setVals _⟩,FrD.setG H.out.hC H.out.hG H.out.cur.lt _ _⟩;exact H.out.cur.below H.out.hC ((Below.refl lo w).setCell (p:=(Z G 2)) H.out.hG _)
theorem abf (C lo G:Nat)(bs:List Bk)(w:World)(h:DSt w C lo G bs) :
  Calls Tryz.prog 122 #[.pointer (some (Z G 0))] w fun e w'=>SomeBool w e w':=by
 obtain⟨bv,vals,hg⟩:=h.gen;obtain⟨c0,c1,c2,f1,f2⟩:=hg.cells;obtain⟨a,cap,rfl⟩:=hg.slice;obtain⟨n,HN⟩:∃n,Hid (bs.length=n):=⟨_,rfl⟩;rw[HN.out] at c1;clear h hg;by_cases h1:(56:Int)<vals
 ·go_enter Tryz.func122,Tryz.ntmps122
  go_wp2;go_ret;exact⟨_,rfl,rfl⟩
 ·go_enter Tryz.func122,Tryz.ntmps122
  go_wp2;go_ret;exact⟨_,rfl,rfl⟩
theorem kG (C lo G:Nat)(bs:List Bk)(kv:Value)(l:List Int)(w:World)(h:DSt w C lo G bs)(hk:ja w lo kv l)(h0:0<l.length)(h1:l.length≤1000) :
  Calls Tryz.prog 107 #[.pointer (some (Z G 0)),kv] w fun e w'=>∃d:Int,e=.returned (vi d)∧DSt w' C lo G bs∧Fr C w w':=by
 have H:Hid (DSt w C lo G bs):=h;obtain⟨bv,vals,hg⟩:=h.gen;obtain⟨c0,_,_,_,_⟩:=hg.cells;have HK:Hid (ja w lo kv l):=hk;obtain⟨n,HN⟩:∃n,Hid (l.length=n):=⟨_,rfl⟩;obtain⟨ka,kcap,hkv,_⟩:=hk.row;rw[HN.out] at hkv h0 h1;subst hkv;clear h hg hk;go_enter Tryz.func107,Tryz.ntmps107
 go_wp2_with fail
 refine(jH C (n:Int) _ H.out.cur).mono ?_;rintro e w1 ⟨x,rfl,hx0,hx1,_,hf,hc⟩;have t:=hx1 (by omega);obtain⟨xn,rfl⟩:∃xn:Nat,x=(xn:Int):=⟨x.toNat,by omega⟩;have HF:Hid (Fr C w w1):=hf;have HC:Hid (Cur w1 C):=hc;obtain⟨ra,rcap,hra,hrc⟩:=(show ja w1 lo (.slice ka n kcap) l from jq HK.out (ju.fr hf H.out.hC)).row;rw[HN.out] at hra hrc;obtain⟨g,e,_,_,hcell,_⟩:=hrc h0;simp only[Value.slice.injEq] at hra;obtain⟨r,_,_⟩:=hra;rw[e] at r;subst r;have q1:=hcell xn (by omega);clear hrc hcell hf hc hx1 e c0;go_wp2_with fail
 go_ret;exact⟨_,rfl,H.out.draw HF.out HC.out,HF.out⟩
theorem afy : (Tryz.prog.info? 43).map (fun i=>(i.zero,i.size,i.bytes))=some (some (.agg #[.slice none 0 0,.slice none 0 0,vi 0,vi 0,vi 0,vi 0]),6,80):=by kernel_rfl
theorem info_ins : (Tryz.prog.info? 47).map (fun i=>(i.zero,i.size,i.bytes))=some (some (.agg #[vi 0,vi 0,vi 0,vi 0,vi 0]),5,40):=by kernel_rfl
def bk0 : Bk:=⟨.slice none 0 0,0,.slice none 0 0,0,0,0,0,0⟩
theorem ym.empty (w:World)(lo:Nat):ym w lo (.slice none 0 0) 0:=⟨[],World.ownsRow_nil _ _ _ _,by simp,by omega⟩
theorem qJ.empty (w:World)(lo:Nat):qJ w lo (.slice none 0 0) 0:=⟨[],World.ownsRow_nil _ _ _ _,fun i hi=>absurd hi (by omega),by omega⟩
theorem jE.grow {w wa:World}{C lo G:Nat}{bv v':Value}{bs:List Bk}{vals:Int}(h:jE w C lo G bv bs vals)(hG:lo≤G)(hg:w.grownBy wa bv.ownBlock)(ho:wa.ownsRow lo 43 6 v' (bs.length+1) (bkCells bs ++ bk0.cells)) :
  wa.cell? (Z G 1)=some bv∧wa.frozen? (Z G 1)=false∧jE (wa.setCell (Z G 1) v') C lo G v' (bs ++ [bk0]) vals:=by
 have t:wa.heap[G]?=some (.cells #[.pointer (some (Z C 0)),bv,vi vals] 152 (0,0)):=(hg.block G (aI h.box).1 (fun e=>by
  obtain⟨c,hc⟩:=jo h.row G e.symm;rw[h.box] at hc
  cases hc)).trans h.box
 have ga:=qX wa G 1 v';have oG:∀{e:TypeId},152≠e→qQ wa (some G) e:=fun he r hr=>by cases hr;exact⟨_,_,_,t,he⟩
 have B:∀i b,(bs ++ [bk0])[i]?=some b→(bs[i]?=some b∨b=bk0):=fun i b hb=>by
  by_cases hi:i<bs.length
  ·rw[List.getElem?_append_left hi] at hb;exact .inl hb
  ·rw[List.getElem?_append_right (by omega)] at hb;have:i-bs.length=0:=by
    by_cases e:i-bs.length=0
    ·exact e
    ·rw[List.getElem?_eq_none (by simp;omega)] at hb;cases hb
   rw[this] at hb;simp at hb;exact .inr hb.symm
 refine⟨by simp[World.cell?,t],by simp[World.frozen?,t],?_,?_,fun i b hb=>?_,fun i b hb=>?_,fun i j x y H hx hy=>?_,fun i j x y H hx hy=>?_⟩
 ·obtain⟨I,hk⟩:=aI t;show(wa.heap.modify G _)[G]?=_;rw[Array.getElem?_eq_getElem (by rw[Array.size_modify];exact I),Array.getElem_modify_self,hk]
  rfl
 ·rw[KT];have:=j8 ho ga (oG (by decide));simpa [bkCells] using this
 ·rcases B i b hb with hb|rfl
  ·exact((h.ins i b hb).other hg (qQ.of h.row (by decide))).other ga (oG (by decide))
  ·exact ym.empty _ _
 ·rcases B i b hb with hb|rfl
  ·exact((h.phi i b hb).other hg (qQ.of h.row (by decide)) (qQ.of h.row (by decide))).other ga (oG (by decide)) (oG (by decide))
  ·exact qJ.empty _ _
 ·rcases B i x hx with hx|rfl
  ·rcases B j y hy with hy|rfl
   ·exact h.apL i j x y H hx hy
   ·intro k _ e;cases e
  ·intro k e;cases e
 ·rcases B i x hx with hx|rfl
  ·rcases B j y hy with hy|rfl
   ·exact h.apP i j x y H hx hy
   ·intro k _ e;cases e
  ·intro k e;cases e
theorem acP (w:World)(c0 c1 c2 c3 c4 c5:Value)(t:TypeId):∀j u,[c0,c1,c2,c3,c4,c5][j]?=some u→(w.alloc (.cells #[c0,c1,c2,c3,c4,c5] t)).cell? (((Z w.heap.size 0):Addr).add j)=some u:=by
 intro j u hj;have r:j<6:=by
  by_cases h:j<6
  ·exact h
  ·rw[List.getElem?_eq_none (by simp;omega)] at hj;cases hj
 have h6:j=0∨j=1∨j=2∨j=3∨j=4∨j=5:=by omega
 rcases h6 with rfl|rfl|rfl|rfl|rfl|rfl <;> (simp at hj;subst hj;simp[yE])
theorem qu (C lo G:Nat)(bs:List Bk)(w:World)(h:DSt w C lo G bs)(hn:bs.length≤1000) :
  Calls Tryz.prog 103 #[.pointer (some (Z G 0))] w fun e w'=>e=.returned (vi (bs.length:Int))∧DSt w' C lo G (bs ++ [bk0])∧FrD C lo G w w':=by
 have H:Hid (DSt w C lo G bs):=h;obtain⟨bv,vals,hg⟩:=h.gen;have HG:Hid (jE w C lo G bv bs vals):=hg;obtain⟨c0,c1,c2,f1,f2⟩:=hg.cells;obtain⟨n,HN⟩:∃n,Hid (bs.length=n):=⟨_,rfl⟩;have M:G<w.heap.size:=h.xx;have L:C<w.heap.size:=h.cur.lt;have J:lo≤w.heap.size:=by have:=h.hG;omega
 obtain⟨i0,hi,hz0,hz1,hz2⟩:=info_parts afy;have O:100000≤maxLen:=by decide
 rw[HN.out] at hn ⊢;clear h hg;go_enter Tryz.func103,Tryz.ntmps103
 go_wp2_with (at_builtin;refine wpList_append_own _ rfl _ _ 24 rfl lo 43 i0 (.agg #[.slice none 0 0,.slice none 0 0,vi 0,vi 0,vi 0,vi 0]) 6 80 Tryz.underlying24 hi hz0 hz1 hz2 rfl (by decide) bv n (bkCells bs) rfl (World.ownsRow.alloc (by rw[←HN.out];exact HG.out.row) _) (Z w.heap.size 0) 1 1 bk0.cells rfl rfl (acP _ _ _ _ _ _ _ _) (by simp[bk0,Bk.cells,Value.oneCell']) (by omega) (by omega) (by simp;omega) ?_;intro v' wa B t _;have GA:Hid (jE (w.alloc (.cells #[.slice none 0 0,.slice none 0 0,vi 0,vi 0,vi 0,vi 0] 43)) C lo G bv bs vals):=HG.out.lo H.out.hG (ju.later (Bel.alloc _ _));have I:Hid ((w.alloc (.cells #[.slice none 0 0,.slice none 0 0,vi 0,vi 0,vi 0,vi 0] 43)).grownBy wa bv.ownBlock):=t;obtain⟨g',cap',rfl⟩:=ownsRow_succ B;obtain⟨e1,e2,gn⟩:=GA.out.grow H.out.hG t (by rw[HN.out];exact B);have GN:Hid (jE (wa.setCell (Z G 1) (sq g' 0 (n+1) cap')) C lo G (sq g' 0 (n+1) cap') (bs ++ [bk0]) vals):=gn;clear B t gn)
 go_ret
 have fa:FrD C lo G w wa:=(FrD.later (Bel.alloc _ _) L).trans (FrD.Kf I.out H.out.hC (by simp;omega) (fun r hr=>by
  obtain⟨c,hc⟩:=jo GA.out.row r hr
  exact⟨(World.ownsRow.lt GA.out.row r hr).1,.inr ⟨_,_,_,hc,.inl rfl⟩⟩))
 have K:C<wa.heap.size:=by have:=I.out.size;simp at this;omega
 refine⟨by simp,⟨H.out.hC,H.out.hG,?_,_,_,GN.out⟩,fa.trans (FrD.setG H.out.hC H.out.hG K _ _)⟩;refine H.out.cur.below H.out.hC ?_;have b1:Below lo w wa:=((Below.refl lo w).alloc J _).grown I.out (by simp;omega) (fun r hr=>(World.ownsRow.lt GA.out.row r hr).1);exact b1.setCell (p:=(Z G 1)) H.out.hG _
theorem aaA {P:Program}{ops:Array Oper}{o:Oper}{a:Act}{w:World}{K:Act→World→Prop}{Q:Exit→Act→World→Prop}{E:Prop}
  (hg:o.guard=none) (s x:Operand) (t:TypeId) (hop:o.op=Op.call { callee:=Callee.builtin Builtin.append,args := #[s,x],argTypes := #[t,t] })
  (base:Nat) (e:TypeId) (i:TypeInfo) (z:Value) (size bytes:Nat) (h1:P.underlying t=some (.slice e)) (h2:P.info? e=some i) (h3:i.zero=some z) (h4:i.size=size) (h5:i.bytes=bytes) (h6:z.cells.size=size) (h7:0<size)
  (v:Value) (k:Nat) (xs:List Value) (hs:a.eval s=v) (hown:w.ownsRow base e size v k xs) (ad:Addr) (m c:Nat) (news:List Value) (hx:a.eval x=.slice (some ad) m c) (hn:news.length=m*size)
  (hc:∀j u,news[j]?=some u→w.cell? (ad.add j)=some u) (h1c:∀u∈news,u.oneCell'=true) (b1:k+m≤maxLen) (b2:(k+m)*bytes≤140737488355328) (b3:base≤w.heap.size)
  (hK:∀v' w',w'.ownsRow base e size v' (k+m) (xs ++ news)→w.grownBy w' v.ownBlock→(v'.ownBlock=v.ownBlock∨v'.ownBlock=some w.heap.size)→K (a.put o.dst v') w') :
  if Region.wanted o (yielded ops a.tmps)=true then Oper.wp P o a w K Q else E:=by
 have hw:Region.wanted o (yielded ops a.tmps)=true:=by simp[Region.wanted,hg]
 rw[if_pos hw];obtain⟨v',w',hrun,r1,r2,r3,r4⟩:=run_append_own_at (P:=P) w base t o.type e i z size bytes h1 h2 h3 h4 h5 h6 h7 v k xs hown ad m c news hn hc h1c b1 b2 b3;unfold Oper.wp;simp[execOp,hop,resolve,invoke,builtin,hs,hx,hrun,Result.andThen];exact hK v' w' r1 r2 r4
theorem abG (w:World)(c0 c1 c2 c3 c4:Value)(t:TypeId):∀j u,[c0,c1,c2,c3,c4][j]?=some u→(w.alloc (.cells #[c0,c1,c2,c3,c4] t)).cell? (((Z w.heap.size 0):Addr).add j)=some u:=by
 intro j u hj;have r:j<5:=by
  by_cases h:j<5
  ·exact h
  ·rw[List.getElem?_eq_none (by simp;omega)] at hj;cases hj
 have h6:j=0∨j=1∨j=2∨j=3∨j=4:=by omega
 rcases h6 with rfl|rfl|rfl|rfl|rfl <;> (simp at hj;subst hj;simp[yE])
theorem five_at (w:World)(g:Nat)(c0 c1 c2 c3 c4:Value)(t:TypeId)(hg:w.heap.size=g):∀j u,[c0,c1,c2,c3,c4][j]?=some u→(w.alloc (.cells #[c0,c1,c2,c3,c4] t)).cell? (((Z g 0):Addr).add j)=some u:=by
 subst hg;exact abG w c0 c1 c2 c3 c4 t
theorem jE.at {w:World}{C lo G:Nat}{bv:Value}{bs:List Bk}{vals:Int}(h:jE w C lo G bv bs vals){i:Nat}{b:Bk}(hb:bs[i]?=some b) :
  ∃g cap,bv=sq g 0 bs.length cap∧lo≤g∧g<w.heap.size∧g≠G∧(∀j u,j<6→b.cells[j]?=some u→w.cell? (Z g (i*6+j))=some u)∧∀j,w.frozen? (Z g j)=false:=by
 have hi:i<bs.length:=by
  by_cases e:i<bs.length
  ·exact e
  ·rw[List.getElem?_eq_none (by omega)] at hb;cases hb
 rcases h.row.2 with ⟨_,e⟩ | ⟨g,cap,cur,rfl,hlo,hg,h1,h2,h3,h4⟩
 ·omega
 ·refine⟨g,cap,rfl,hlo,(aI hg).1,fun e=>?_,fun j u hj hu=>?_,fun j=>?_⟩
  ·subst e;rw[h.box] at hg;cases hg
  ·have h5:(cur.toList.take (bs.length*6))[i*6+j]?=some u:=by rw[h4,KF bs i j b hb hj];exact hu
   rw[List.getElem?_take,if_pos (by omega)] at h5;have h6:cur[i*6+j]?=some u:=by simpa using h5
   simp[World.cell?,hg,h6]
  ·simp[World.frozen?,hg]
structure Zo (i:Nat)(w:World)(C lo G:Nat)(bv:Value)(bs:List Bk)(vals:Int):Prop where
 box:w.heap[G]?=some (.cells #[.pointer (some (Z C 0)),bv,vi vals] 152 (0,0))
 row:w.ownsRow lo 43 6 bv bs.length (bkCells bs)
 ins:∀(m:Nat) (b:Bk),m≠i→bs[m]?=some b→ym w lo b.lv b.ln
 phi:∀(m:Nat) (b:Bk),m≠i→bs[m]?=some b→qJ w lo b.pv b.pn
 apL:∀(m j:Nat) (x y:Bk),m≠i→j≠i→m≠j→bs[m]?=some x→bs[j]?=some y→KU x.lv y.lv
 apP:∀(m j:Nat) (x y:Bk),m≠i→j≠i→m≠j→bs[m]?=some x→bs[j]?=some y→KU x.pv y.pv
theorem jE.but {w:World}{C lo G:Nat}{bv:Value}{bs:List Bk}{vals:Int}(h:jE w C lo G bv bs vals)(i:Nat):Zo i w C lo G bv bs vals :=
 ⟨h.box,h.row,fun m b _ hb=>h.ins m b hb,fun m b _ hb=>h.phi m b hb,fun m j x y _ _ r hx hy=>h.apL m j x y r hx hy,fun m j x y _ _ r hx hy=>h.apP m j x y r hx hy⟩
theorem Zo.setCell {w:World}{C lo G g cap:Nat}{bs:List Bk}{vals:Int}{i:Nat}(h:Zo i w C lo G (sq g 0 bs.length cap) bs vals){j:Nat}{b b':Bk}{u:Value}(hb:bs[i]?=some b)(hj:j<6)(hc:b'.cells=b.cells.set j u)
  (hi:ym w lo b'.lv b'.ln) (hp:qJ w lo b'.pv b'.pn) (hL:∀m y,m≠i→bs[m]?=some y→KU b'.lv y.lv∧KU y.lv b'.lv) (hP:∀m y,m≠i→bs[m]?=some y→KU b'.pv y.pv∧KU y.pv b'.pv) :
  jE (w.setCell (Z g (i*6+j)) u) C lo G (sq g 0 bs.length cap) (bs.set i b') vals:=by
 have st:=World.ownsRow.stored h.row (i*6+j) u;have oB:∀{e:TypeId},43≠e→qQ w (some g) e:=fun he=>by
  have:=qQ.of h.row he;simpa [Value.ownBlock] using this
 have B:i<bs.length:=by
  by_cases e:i<bs.length
  ·exact e
  ·rw[List.getElem?_eq_none (by omega)] at hb;cases hb
 have r:∀m y,(bs.set i b')[m]?=some y→(m=i∧y=b')∨(m≠i∧bs[m]?=some y):=fun m y hy=>by
  by_cases e:m=i
  ·subst e;rw[List.getElem?_set_self B] at hy;cases hy
   exact .inl ⟨rfl,rfl⟩
  ·rw[List.getElem?_set_ne (fun h=>e h.symm)] at hy;exact .inr ⟨e,hy⟩
 refine⟨?_,?_,fun m y hy=>?_,fun m y hy=>?_,fun m k x y t hx hy=>?_,fun m k x y t hx hy=>?_⟩
 ·refine(st.2.block G (aI h.box).1 (fun e=>?_)).trans h.box;obtain⟨c,hc2⟩:=jo h.row G (by simpa [Value.ownBlock] using e.symm);rw[h.box] at hc2;cases hc2
 ·rw[List.length_set,←Zn bs i j b b' u hb hj hc];exact st.1
 ·rcases r m y hy with ⟨rfl,rfl⟩ | ⟨hm,hy⟩
  ·exact hi.other st.2 (oB (by decide))
  ·exact(h.ins m y hm hy).other st.2 (oB (by decide))
 ·rcases r m y hy with ⟨rfl,rfl⟩ | ⟨hm,hy⟩
  ·exact hp.other st.2 (oB (by decide)) (oB (by decide))
  ·exact(h.phi m y hm hy).other st.2 (oB (by decide)) (oB (by decide))
 ·rcases r m x hx with ⟨rfl,rfl⟩ | ⟨hm,hx2⟩
  ·rcases r k y hy with ⟨e,_⟩ | ⟨hk,hy⟩
   ·exact absurd e.symm t
   ·exact(hL k y hk hy).1
  ·rcases r k y hy with ⟨rfl,rfl⟩ | ⟨hk,hy⟩
   ·exact(hL m x hm hx2).2
   ·exact h.apL m k x y hm hk t hx2 hy
 ·rcases r m x hx with ⟨rfl,rfl⟩ | ⟨hm,hx2⟩
  ·rcases r k y hy with ⟨e,_⟩ | ⟨hk,hy⟩
   ·exact absurd e.symm t
   ·exact(hP k y hk hy).1
  ·rcases r k y hy with ⟨rfl,rfl⟩ | ⟨hk,hy⟩
   ·exact(hP m x hm hx2).2
   ·exact h.apP m k x y hm hk t hx2 hy
theorem jE.insGrown {w wa:World}{C lo G:Nat}{bv:Value}{bs:List Bk}{vals:Int}(h:jE w C lo G bv bs vals){i:Nat}{b:Bk}(hb:bs[i]?=some b)(hg:w.grownBy wa b.lv.ownBlock) :
  Zo i wa C lo G bv bs vals∧qJ wa lo b.pv b.pn:=by
 obtain⟨xs,hx,_⟩:=h.ins i b hb;have t:=fun(m:Nat) (y:Bk) (hy:bs[m]?=some y)=>(h.phi m y hy).other hg (qQ.of hx (by decide)) (qQ.of hx (by decide))
 refine⟨⟨(hg.block G (aI h.box).1 (fun e=>?_)).trans h.box,j8 h.row hg (qQ.of hx (by decide)),fun m y hm hy=>?_,fun m y _ hy=>t m y hy,(h.but i).apL,(h.but i).apP⟩,t i b hb⟩
 ·obtain⟨c,hc⟩:=jo hx G e.symm;rw[h.box] at hc;cases hc
 ·exact(h.ins m y hy).apart hg (fun r hr=>h.apL i m b y (fun e=>hm e.symm) hb hy r hr)
theorem k9 {w:World}{base:Nat}{e:TypeId}{s:Nat}{v:Value}{n:Nat}{xs:List Value}(h:w.ownsRow base e s v n xs):∀r,v.ownBlock=some r→r<w.heap.size:=fun r hr=>(World.ownsRow.lt h r hr).2
theorem jE.qj {w wa:World}{C lo G g cap:Nat}{bs:List Bk}{vals:Int}(h:jE w C lo G (sq g 0 bs.length cap) bs vals){i:Nat}{b:Bk}{v':Value}{xs news:List Value}(hb:bs[i]?=some b)
  (hx:w.ownsRow lo 47 5 b.lv b.ln xs) (hxi:∀y∈xs,∃z,y=vi z) (hni:∀y∈news,∃z,y=vi z) (hlt:b.ln<24) (hg:w.grownBy wa b.lv.ownBlock)
  (ho:wa.ownsRow lo 47 5 v' (b.ln+1) (xs ++ news)) (hat:v'.ownBlock=b.lv.ownBlock∨v'.ownBlock=some w.heap.size) :
  jE (wa.setCell (Z g (i*6+1)) v') C lo G (sq g 0 bs.length cap) (bs.set i { b with lv:=v',ln:=b.ln+1 }) vals:=by
 obtain⟨r,hph⟩:=h.insGrown hb hg;refine r.setCell hb (by omega) rfl ⟨_,ho,fun y hy=>?_,by show b.ln+1≤24;omega⟩ hph (fun m y hm hy=>?_) (fun m y hm hy=>?_)
 ·rcases List.mem_append.1 hy with hy | hy
  ·exact hxi y hy
  ·exact hni y hy
 ·obtain⟨ys,hys,_⟩:=h.ins m y hy;rcases hat with e | e
  ·refine⟨fun k hk=>?_,fun k hk e2=>?_⟩
   ·exact h.apL i m b y (fun e=>hm e.symm) hb hy k (by rw[←e];exact hk)
   ·exact h.apL m i y b hm hy hb k hk (by rw[←e];exact e2)
  ·refine⟨fun k hk e2=>?_,fun k hk e2=>?_⟩
   ·have h1:=k9 hys k e2;have h2:v'.ownBlock=some k:=hk;rw[e] at h2;simp at h2;omega
   ·have h1:=k9 hys k hk;have h2:v'.ownBlock=some k:=e2;rw[e] at h2;simp at h2;omega
 ·exact⟨h.apP i m b y (fun e=>hm e.symm) hb hy,h.apP m i y b hm hy hb⟩
theorem adN {w wa:World}{C lo G g cap n:Nat}{bs:List Bk}{vals z0 z1 z2 z3 z4:Int}{i ln:Nat}{b:Bk}{v':Value}{xs:List Value}{la:Option Addr}{lcap:Nat}(H:DSt w C lo G bs)(h:jE w C lo G (sq g 0 bs.length cap) bs vals)(hb:bs[i]?=some b)(hlv:b.lv=.slice la b.ln lcap)(hln:b.ln=ln)
  (hx:w.ownsRow lo 47 5 b.lv b.ln xs) (hxi:∀y∈xs,∃z,y=vi z) (hlt:ln<24) (hgl:g<w.heap.size)
  (hg:((w.alloc (.cells #[vi z0,vi z1,vi z2,vi z3,vi z4] 47)).alloc (.cells #[vi z0,vi z1,vi z2,vi z3,vi z4] 47)).grownBy wa (Value.slice la ln lcap).ownBlock)
  (ho:wa.ownsRow lo 47 5 v' (ln+1) (xs ++ [vi z0,vi z1,vi z2,vi z3,vi z4])) (hat:v'.ownBlock=(Value.slice la ln lcap).ownBlock∨v'.ownBlock=some (w.heap.size+1+1))
  (q1:w.cell? (Z g (i*6+1))=some (.slice la ln lcap)) (c1:w.cell? (Z G 1)=some (sq g 0 n cap)) (f3:w.frozen? (Z g (i*6+1))=false) :
  DSt (wa.setCell (Z g (i*6+1)) v') C lo G (bs.set i { b with lv:=v',ln:=ln+1 })∧FrD C lo G w (wa.setCell (Z g (i*6+1)) v')∧wa.cell? (Z g (i*6+1))=some (.slice la ln lcap)∧wa.frozen? (Z g (i*6+1))=false∧wa.cell? (Z G 1)=some (sq g 0 n cap):=by
 subst hln;have L:C<w.heap.size:=H.cur.lt;have M:G<w.heap.size:=H.xx;have J:lo≤w.heap.size:=by have:=H.hG;omega
 have b2:Below w.heap.size w ((w.alloc (.cells #[vi z0,vi z1,vi z2,vi z3,vi z4] 47)).alloc (.cells #[vi z0,vi z1,vi z2,vi z3,vi z4] 47)):=by repeat (first | exact Below.refl _ _ | apply Below.drew | refine Below.alloc ?_ (by simp <;> omega) _ | refine Below.setCell ?_ (by simp <;> omega) _)
 have GA:=h.lo H.hG (ju.later b2);have t:World.ownsRow ((w.alloc (.cells #[vi z0,vi z1,vi z2,vi z3,vi z4] 47)).alloc (.cells #[vi z0,vi z1,vi z2,vi z3,vi z4] 47)) lo 47 5 b.lv b.ln xs:=World.ownsRow.alloc (World.ownsRow.alloc hx _) _;rw[←hlv] at hg hat;have GN:=GA.qj (news := [vi z0,vi z1,vi z2,vi z3,vi z4]) hb t hxi (by intro y hy;simp at hy;rcases hy with rfl|rfl|rfl|rfl|rfl <;> exact⟨_,rfl⟩) hlt hg ho (by simpa using hat)
 have I:wa.heap[g]?=w.heap[g]?:=(hg.block g (by simp;omega) (fun e=>by
  obtain⟨c,hc⟩:=jo t g e.symm;obtain⟨c2,hc2⟩:=jo GA.row g rfl;rw[hc] at hc2
  cases hc2)).trans (b2.block g hgl)
 have K:wa.heap[G]?=w.heap[G]?:=(hg.block G (by simp;omega) (fun e=>by
  obtain⟨c,hc⟩:=jo t G e.symm;rw[GA.box] at hc
  cases hc)).trans (b2.block G M)
 have B:lo≤g:=(World.ownsRow.lt h.row g rfl).1;have O:w.heap.size+2≤wa.heap.size:=by have:=hg.size;simp at this;omega
 refine⟨⟨H.hC,H.hG,?_,_,_,GN⟩,?_,(World.cell?_of_block (w:=w) (w':=wa) (a:=(Z g (i*6+1))) I).trans q1,(World.frozen?_of_block (w:=w) (w':=wa) (a:=(Z g (i*6+1))) I).trans f3,(World.cell?_of_block (w:=w) (w':=wa) (a:=(Z G 1)) K).trans c1⟩
 ·refine H.cur.below H.hC ?_;have b3:Below lo w wa:=(b2.mono J).grown hg (by simp;omega) (fun r hr=>(World.ownsRow.lt t r hr).1);exact b3.setCell (p:=(Z g (i*6+1))) B _
 ·refine((FrD.later b2 L).trans (FrD.Kf hg H.hC (by simp;omega) (fun r hr=>?_))).trans (FrD.Kf (qX _ g _ _) H.hC (by omega) (fun r hr=>?_))
  ·obtain⟨c,hc⟩:=jo t r hr;exact⟨(World.ownsRow.lt t r hr).1,.inr ⟨_,_,_,hc,.inr (.inl rfl)⟩⟩
  ·cases hr
   obtain⟨c2,hc2⟩:=jo h.row g rfl;exact⟨B,.inr ⟨_,_,_,I.trans hc2,.inl rfl⟩⟩
def GivesPut (C lo G:Nat)(bs:List Bk)(w:World)(e:Ending)(w':World):Prop := ∃v bs',e=.returned v∧bs'.length=bs.length∧DSt w' C lo G bs'∧FrD C lo G w w'
theorem qk (C lo G:Nat)(bs:List Bk)(bn:Nat)(z0 z1 z2 z3 z4:Int)(w:World)(h:DSt w C lo G bs)(hb:bn<bs.length)(hn:bs.length≤1000) :
  Calls Tryz.prog 105 #[.pointer (some (Z G 0)),vi (bn:Int),.agg #[vi z0,vi z1,vi z2,vi z3,vi z4]] w fun e w'=>GivesPut C lo G bs w e w':=by
 have H:Hid (DSt w C lo G bs):=h;obtain⟨bv,vals,hg⟩:=h.gen;have HG:Hid (jE w C lo G bv bs vals):=hg;obtain⟨c0,c1,c2,f1,f2⟩:=hg.cells;obtain⟨x,HX⟩:∃x,Hid (bs[bn]?=some x):=⟨bs[bn],List.getElem?_eq_getElem hb⟩;obtain⟨g,cap,rfl,hlog,hgl,hgG,hcell,hfz⟩:=hg.at HX.out;obtain⟨xs,hxr,hxi,hx24⟩:=hg.ins bn x HX.out;have B:Hid (w.ownsRow lo 47 5 x.lv x.ln xs∧(∀y∈xs,∃z,y=vi z)∧x.ln≤24):=⟨hxr,hxi,hx24⟩;obtain⟨la,lcap,hlv⟩:∃la lcap,x.lv=.slice la x.ln lcap:=by
  rcases hxr.2 with ⟨e,e2⟩ | ⟨g2,cap2,cur2,e,_⟩
  ·exact⟨none,0,by rw[e,e2]⟩
  ·exact⟨_,_,e⟩
 obtain⟨n,HN⟩:∃n,Hid (bs.length=n):=⟨_,rfl⟩;have q1:=hcell 1 x.lv (by omega) rfl;have f3:=hfz (bn*6+1);rw[hlv] at q1;rw[HN.out] at hb hn c1;have U:(bn:Int)<(n:Int):=by omega
 have O:G<w.heap.size:=h.xx;have L:C<w.heap.size:=h.cur.lt;have M:lo≤w.heap.size:=by have:=h.hG;omega
 obtain⟨ln,HLN⟩:∃ln,Hid (x.ln=ln):=⟨_,rfl⟩;rw[HLN.out] at q1;obtain⟨i0,hi,hz0,hz1,hz2⟩:=info_parts info_ins;have X:100000≤maxLen:=by decide
 clear h hg hcell hfz hxr hxi hx24;by_cases V:(ln:Int)<24
 ·go_enter Tryz.func105,Tryz.ntmps105
  go_wp2_with fail
  have aa:w.heap.size<w.heap.size+1:=by omega
  go_region_law (refine aaA rfl (.tmp 31) (.tmp 33) 39 rfl lo 47 i0 (.agg #[vi 0,vi 0,vi 0,vi 0,vi 0]) 5 40 Tryz.underlying39 hi hz0 hz1 hz2 rfl (by decide) (.slice la ln lcap) ln xs (by simp[Act.eval]) (by exact World.ownsRow.alloc (World.ownsRow.alloc (by have h:=B.out.1;rw[hlv,HLN.out] at h;exact h) _) _) (Z (w.heap.size+1) 0) 1 1 [vi z0,vi z1,vi z2,vi z3,vi z4] (by simp[Act.eval]) rfl (by exact five_at _ _ _ _ _ _ _ _ (by simp)) (by simp[Value.oneCell']) (by omega) (by omega) (by simp;omega) ?_;intro v' wa t r I;obtain⟨gv,capv,rfl⟩:=ownsRow_succ t;obtain⟨GN,FN,e1,e2,e3⟩:=adN H.out HG.out HX.out hlv HLN.out B.out.1 B.out.2.1 (by omega) hgl (World.grownBy.mk r.os r.tape r.output r.size r.block) t (by simpa using I) q1 c1 f3;have K:Hid (DSt (wa.setCell (Z g (bn*6+1)) (sq gv 0 (ln+1) capv)) C lo G (bs.set bn { x with lv:=sq gv 0 (ln+1) capv,ln:=ln+1 })):=GN;have J:Hid (FrD C lo G w (wa.setCell (Z g (bn*6+1)) (sq gv 0 (ln+1) capv))):=FN;clear t r I GN FN)
  all_goals
   go_wp2_with fail
   go_end0
   refine⟨_,_,rfl,?_,K.out,J.out⟩;simp
 ·go_enter Tryz.func105,Tryz.ntmps105
  go_wp2_with fail
  go_end0
  exact⟨_,bs,rfl,rfl,H.out.later (Bel.alloc _ _),FrD.later (Bel.alloc _ _) L⟩
theorem DSt.c0 {w:World}{C lo G:Nat}{bs:List Bk}(h:DSt w C lo G bs):w.cell? (Z G 0)=some (.pointer (some (Z C 0))):=by
 obtain⟨_,_,hg⟩:=h.gen;exact hg.cells.1
theorem DSt.known {w w':World}{C lo G:Nat}{bs:List Bk}{v:Value}{l:List Int}(h:DSt w C lo G bs)(hf:FrD C lo G w w')(hk:ja w lo v l):ja w' lo v l:=hf.ints hk (fun c e=>by
 obtain⟨_,_,hg⟩:=h.gen;rw[hg.box] at e
 cases e)
theorem adO (C:Nat)(w:World)(hc:Cur w C) :
  Calls Tryz.prog 134 #[.pointer (some (Z C 0))] w fun e w'=>∃z:Int,e=.returned (vi z)∧Fr C w w'∧Cur w' C:=by
 have HC:Hid (Cur w C):=hc;clear hc;go_enter Tryz.func134,Tryz.ntmps134
 go_wp2_with fail
 refine(YS C 8 _ HC.out).mono ?_;rintro e w1 ⟨b,rfl,hf1,hc1⟩;have F1:Hid (Fr C w w1):=hf1;have C1:Hid (Cur w1 C):=hc1;have h:C<w1.heap.size:=hc1.lt;clear hf1 hc1;cases b with
 | true=>
  go_wp2_with fail
  refine(yt C w1.heap.size [9223372036854775807,-9223372036854775808,4294967296,-1,63,64,1000000007] 7 _ (C1.out.later (Bel.alloc _ _)) (by omega) rfl (by omega) (by omega) ?_).mono ?_
  ·intro j hj;have h7:j=0∨j=1∨j=2∨j=3∨j=4∨j=5∨j=6:=by omega
   rcases h7 with rfl|rfl|rfl|rfl|rfl|rfl|rfl <;> simp
  ·rintro e w2 ⟨x,rfl,_,hf,hc⟩;have F2:Hid (Fr C w w2):=F1.out.trans ((Fr.xW (Bel.alloc _ _)).trans hf);have C2:Hid (Cur w2 C):=hc;clear hf hc;go_wp2_with fail
   go_ret;exact⟨_,rfl,F2.out,C2.out⟩
 | false=>
  go_wp2_with fail
  refine(jH C 20 _ C1.out).mono ?_;rintro e w2 ⟨x,rfl,hx0,hx1,_,hf,hc⟩;have F2:Hid (Fr C w w2):=F1.out.trans hf;have C2:Hid (Cur w2 C):=hc;have r:=hx1 (by omega);clear hf hc hx1;go_wp2_with fail
  go_ret;exact⟨_,rfl,F2.out,C2.out⟩
theorem ja.zx {w:World}{lo kg kn kcap:Nat}{l:List Int}(h:ja w lo (sq kg 0 kn kcap) l)(hl:l.length=kn):∀j,j<kn→w.cell? (Z kg j)=some (vi (l.getD j 0)):=by
 intro j hj;obtain⟨a,cap,e,hc⟩:=h.row;obtain⟨g,e2,_,_,hd,_⟩:=hc (by omega);simp only[Value.slice.injEq] at e;obtain⟨e1,_,_⟩:=e;rw[e2] at e1;simp at e1;subst e1;exact hd j (by omega)
theorem ja.ltg {w:World}{lo kg kn kcap:Nat}{l:List Int}(h:ja w lo (sq kg 0 kn kcap) l):kg<w.heap.size:=(World.ownsRow.lt h kg rfl).2
theorem xM {w:World}{kg kn:Nat}{l:List Int}{o:Obj}(h:∀j,j<kn→w.cell? (Z kg j)=some (vi (l.getD j 0)))(hk:kg<w.heap.size)(hl:l.length=kn):∀j u,(l.map (fun x=>vi x))[j]?=some u→(w.alloc o).cell? (((Z kg 0):Addr).add j)=some u:=by
 intro j u hj;have r:j<l.length:=by
  by_cases e:j<l.length
  ·exact e
  ·rw[List.getElem?_eq_none (by simp;omega)] at hj;cases hj
 rw[yE,Nat.zero_add,Bel.keeps (Bel.alloc w o) (h j (by omega))];rw[List.getElem?_map,List.getElem?_eq_getElem r] at hj;simp at hj;subst hj;simp[List.getD,r]
theorem xN {w:World}{lo kn:Nat}{v:Value}{l:List Int}(h:w.ownsRow lo 3 1 v (0+kn) ([] ++ l.map (fun x=>vi x)))(hl:l.length=kn):ja w lo v l:=by
 unfold ja;rw[hl];simpa using h
theorem zc {w:World}{lo kn:Nat}{v:Value}{l:List Int}{a:Int}(h:w.ownsRow lo 3 1 v (kn+1) (l.map (fun x=>vi x) ++ [vi a]))(hl:l.length=kn):ja w lo v (l ++ [a]):=by
 unfold ja;simpa [hl] using h
theorem Qg {w:World}{lo kn:Nat}{v:Value}{l:List Int}{a b c:Int}(h:w.ownsRow lo 3 1 v (kn+3) (l.map (fun x=>vi x) ++ [vi a,vi b,vi c]))(hl:l.length=kn):ja w lo v (l ++ [a,b,c]):=by
 unfold ja;simpa [hl] using h
theorem qR {w wa wb:World}{va:Value}{l:List Int}{o o2:Obj}(ga:(w.alloc o).grownBy wa (some w.heap.size))(gb:(wa.alloc o2).grownBy wb va.ownBlock)(oa:ja wa w.heap.size va l):Below w.heap.size w wb:=by
 have b1:Below w.heap.size w wa:=((Below.refl w.heap.size w).alloc (Nat.le_refl _) _).grown ga (by simp) (fun j hj=>by cases hj;exact Nat.le_refl _);exact b1.trans (oa.grown b1.size gb)
theorem zN (w:World)(c0 c1 c2:Value)(t:TypeId):∀j u,[c0,c1,c2][j]?=some u→(w.alloc (.cells #[c0,c1,c2] t)).cell? (((Z w.heap.size 0):Addr).add j)=some u:=by
 intro j u hj;have r:j<3:=by
  by_cases h:j<3
  ·exact h
  ·rw[List.getElem?_eq_none (by simp;omega)] at hj;cases hj
 have h6:j=0∨j=1∨j=2:=by omega
 rcases h6 with rfl|rfl|rfl <;> (simp at hj;subst hj;simp[yE])
def acQ (C lo G:Nat)(bs:List Bk)(l:List Int)(w:World)(e:Ending)(w':World):Prop :=
 ∃kv' l' bs',e=.returned kv'∧bs'.length=bs.length∧DSt w' C lo G bs'∧ja w' lo kv' l'∧l.length≤l'.length∧l'.length≤l.length+3∧FrD C lo G w w'
theorem XC (C lo G:Nat)(bs:List Bk)(bn:Nat)(kv:Value)(l:List Int)(w:World)(h:DSt w C lo G bs)(hb:bn<bs.length)(hn:bs.length≤1000)(hk:ja w lo kv l)(h0:0<l.length)(h1:l.length≤900) :
  Calls Tryz.prog 123 #[.pointer (some (Z G 0)),vi (bn:Int),kv] w fun e w'=>acQ C lo G bs l w e w':=by
 have D0:Hid (DSt w C lo G bs):=h;obtain⟨bv,vals,hg⟩:=h.gen;obtain⟨_,c1,_,_,_⟩:=hg.cells;have c0:=h.c0;obtain⟨x,HX⟩:∃x,Hid (bs[bn]?=some x):=⟨bs[bn],List.getElem?_eq_getElem hb⟩;obtain⟨g,cap,rfl,hlog,hgl,hgG,hcell,hfz⟩:=hg.at HX.out;obtain⟨la,lcap,hlv⟩:∃la lcap,x.lv=.slice la x.ln lcap:=by
  obtain⟨xs,hxr,_⟩:=hg.ins bn x HX.out;rcases hxr.2 with ⟨e,e2⟩ | ⟨g2,cap2,cur2,e,_⟩
  ·exact⟨none,0,by rw[e,e2]⟩
  ·exact⟨_,_,e⟩
 obtain⟨nb,HNB⟩:∃n,Hid (bs.length=n):=⟨_,rfl⟩;obtain⟨kn,HKN⟩:∃n,Hid (l.length=n):=⟨_,rfl⟩;have q1:=hcell 1 x.lv (by omega) rfl;rw[hlv] at q1;rw[HNB.out] at hb hn c1;obtain⟨kg,kcap,rfl⟩:∃kg kcap,kv=sq kg 0 kn kcap:=by
  rcases hk.2 with ⟨_,e⟩ | ⟨g,cap,cur,e,_⟩
  ·omega
  ·exact⟨g,cap,by rw[←HKN.out];exact e⟩
 have K0:Hid (ja w lo (sq kg 0 kn kcap) l):=hk;rw[HKN.out] at h0 h1;have aU:(bn:Int)<(nb:Int):=by omega
 obtain⟨ln,HLN⟩:∃ln,Hid (x.ln=ln):=⟨_,rfl⟩;rw[HLN.out] at q1;obtain⟨i0,hi,hz0,hz1,hz2⟩:=info_parts y7;have aV:100000≤maxLen:=by decide
 obtain⟨B0,HB0⟩:∃X,Hid (bs=X):=⟨_,rfl⟩;have aL:Hid (B0.length=nb):=by rw[←HB0.out];exact HNB.out
 rw[HB0.out] at D0;have F0:Hid (FrD C lo G w w):=FrD.refl _ _ _ _;have aO:=c0;clear h hg hcell hfz hk c0;have aj:Hid (acQ C lo G bs l w (.returned (sq kg 0 kn kcap)) w):=⟨_,l,bs,rfl,rfl,by rw[HB0.out];exact D0.out,K0.out,Nat.le_refl _,by omega,FrD.refl _ _ _ _⟩;go_enter Tryz.func123,Tryz.ntmps123
 go_wp2_with fail
 refine(abf C lo G _ _ D0.out).mono ?_;rintro e w' ⟨fb,rfl,hw'⟩;have aS:=hw'.symm;subst aS;clear hw';cases fb with
 | true=>
  go_wp2_with fail
  go_ret;exact aj.out
 | false=>
  by_cases an:(16:Int)<(ln:Int)
  ·go_wp2_with fail
   go_ret;exact aj.out
  ·go_wp2_with fail
   clear q1 c1 an;refine(jH C 9 _ D0.out.cur).mono ?_;rintro e w1 ⟨x1,rfl,hx1,hy1,_,hf,hc⟩;have D1:Hid (DSt w1 C lo G B0):=D0.out.draw hf hc;obtain⟨B1,HB1⟩:∃X,Hid (B0=X):=⟨_,rfl⟩;rw[HB1.out] at D1;have ah:Hid (B1.length=nb):=by rw[←HB1.out];exact aL.out
   have F1:Hid (FrD C lo G w w1):=F0.out.trans (FrD.fr hf D0.out.hC D0.out.cur.lt);have K1:Hid (ja w1 lo (sq kg 0 kn kcap) l):=jq K0.out (ju.fr hf D0.out.hC);have ak:=D1.out.c0;clear hf hc aO;have aW:=hy1 (by omega);clear hy1;by_cases e0:x1=0
   ·subst e0;go_wp2_with fail
    refine(kU C lo G _ _ D1.out).mono ?_;rintro e w2 ⟨d2,rfl,dd,ff⟩;have D2:Hid (DSt w2 C lo G B1):=dd;obtain⟨B2,HB2⟩:∃X,Hid (B1=X):=⟨_,rfl⟩;rw[HB2.out] at D2;have J:Hid (B2.length=nb):=by rw[←HB2.out];exact ah.out
    have F2:Hid (FrD C lo G w w2):=F1.out.trans ff;have K2:Hid (ja w2 lo (sq kg 0 kn kcap) l):=D1.out.known ff K1.out;have U:=D2.out.c0;clear dd ff ak;go_wp2_with fail
    refine(adO C _ D2.out.cur).mono ?_;rintro e w3 ⟨z3,rfl,hf,hc⟩;have D3:Hid (DSt w3 C lo G B2):=D2.out.draw hf hc;obtain⟨B3,HB3⟩:∃X,Hid (B2=X):=⟨_,rfl⟩;rw[HB3.out] at D3;have L:Hid (B3.length=nb):=by rw[←HB3.out];exact J.out
    have F3:Hid (FrD C lo G w w3):=F2.out.trans (FrD.fr hf D2.out.hC D2.out.cur.lt);have K3:Hid (ja w3 lo (sq kg 0 kn kcap) l):=jq K2.out (ju.fr hf D2.out.hC);have ac:=D3.out.c0;clear hf hc U;go_wp2_with fail
    refine(qk C lo G _ bn 20 d2 0 0 z3 _ D3.out (by rw[L.out];exact hb) (by rw[L.out];exact hn)).mono ?_;rintro e w4 ⟨v4,B4,rfl,hl,dd,ff⟩;have D4:Hid (DSt w4 C lo G B4):=dd;have ai:Hid (B4.length=nb):=hl.trans L.out;have F4:Hid (FrD C lo G w w4):=F3.out.trans ff;have K4:Hid (ja w4 lo (sq kg 0 kn kcap) l):=D3.out.known ff K3.out;have aw:=D4.out.c0;clear hl dd ff ac;have KC:=K4.out.zx HKN.out;have V:kg<w4.heap.size:=K4.out.ltg;have ap:lo≤w4.heap.size:=by have h1:=D4.out.hG;have h2:=D4.out.xx;omega
    go_wp2_with (first | (at_builtin;refine wpList_append_own _ rfl _ _ 30 rfl w4.heap.size 3 i0 (vi 0) 1 8 Tryz.underlying30 hi hz0 hz1 hz2 rfl (by decide) _ 0 [] rfl (show World.ownsRow _ _ _ _ _ _ _ from ke rfl (Nat.le_refl _)) (Z kg 0) kn kcap (l.map (fun x=>vi x)) rfl (by have:=HKN.out;simp;omega) (xM KC V HKN.out) (by intro u hu;obtain⟨z,_,rfl⟩:=List.mem_map.1 hu;rfl) (by omega) (by omega) (by simp) ?_;intro va wa B r _;have OA:Hid (ja wa w4.heap.size va l):=xN B HKN.out;have GA:Hid ((w4.alloc (.cells #[] 3)).grownBy wa (some w4.heap.size)):=r;clear B r) | (at_builtin;refine wpList_append_own _ rfl _ _ 30 rfl w4.heap.size 3 i0 (vi 0) 1 8 Tryz.underlying30 hi hz0 hz1 hz2 rfl (by decide) va kn (l.map (fun x=>vi x)) rfl (World.ownsRow.alloc (by have h:=OA.out;unfold ja at h;rw[HKN.out] at h;exact h) _) (Z wa.heap.size 0) 1 1 [vi d2] rfl rfl (cell_one_new _ _ _) (by simp[Value.oneCell']) (by omega) (by omega) (by have h:=GA.out.size;simp at h ⊢;omega) ?_;intro vb wb H t _;have OB:Hid (ja wb w4.heap.size vb (l ++ [d2])):=zc H HKN.out;have GB:Hid ((wa.alloc (.cells #[vi d2] 3)).grownBy wb va.ownBlock):=t;clear H t))
    go_ret;have bel:=qR GA.out GB.out OA.out;exact⟨_,l ++ [d2],B4,rfl,ai.out.trans HNB.out.symm,D4.out.later bel,OB.out.low ap,by simp,by simp,F4.out.trans (FrD.later bel D4.out.cur.lt)⟩
   ·have g0:(x1 == 0)=false:=by simp[e0]
    by_cases e1:x1=1
    ·subst e1;go_wp2_with fail
     refine(kG C lo G _ (sq kg 0 kn kcap) l _ D1.out K1.out (by have:=HKN.out;omega) (by have:=HKN.out;omega)).mono ?_;rintro e w2 ⟨d2,rfl,dd,hf⟩;have D2:Hid (DSt w2 C lo G B1):=dd;obtain⟨B2,HB2⟩:∃X,Hid (B1=X):=⟨_,rfl⟩;rw[HB2.out] at D2;have J:Hid (B2.length=nb):=by rw[←HB2.out];exact ah.out
     have F2:Hid (FrD C lo G w w2):=F1.out.trans (FrD.fr hf D1.out.hC D1.out.cur.lt);have K2:Hid (ja w2 lo (sq kg 0 kn kcap) l):=jq K1.out (ju.fr hf D1.out.hC);have U:=D2.out.c0;clear dd hf ak;go_wp2_with fail
     refine(qk C lo G _ bn 23 0 d2 0 0 _ D2.out (by rw[J.out];exact hb) (by rw[J.out];exact hn)).mono ?_;rintro e w3 ⟨v3,B3,rfl,hl,dd,ff⟩;have D3:Hid (DSt w3 C lo G B3):=dd;have L:Hid (B3.length=nb):=hl.trans J.out;have F3:Hid (FrD C lo G w w3):=F2.out.trans ff;have K3:Hid (ja w3 lo (sq kg 0 kn kcap) l):=D2.out.known ff K2.out;have ac:=D3.out.c0;clear hl dd ff U;go_wp2_with fail
     go_ret;exact⟨_,l,B3,rfl,L.out.trans HNB.out.symm,D3.out,K3.out,Nat.le_refl _,by omega,F3.out⟩
    ·have g1:(x1 == 1)=false:=by simp[e1]
     by_cases e2:x1=2
     ·subst e2;go_wp2_with fail
      refine(kU C lo G _ _ D1.out).mono ?_;rintro e w2 ⟨d2,rfl,dd,ff⟩;have D2:Hid (DSt w2 C lo G B1):=dd;obtain⟨B2,HB2⟩:∃X,Hid (B1=X):=⟨_,rfl⟩;rw[HB2.out] at D2;have J:Hid (B2.length=nb):=by rw[←HB2.out];exact ah.out
      have F2:Hid (FrD C lo G w w2):=F1.out.trans ff;have K2:Hid (ja w2 lo (sq kg 0 kn kcap) l):=D1.out.known ff K1.out;have U:=D2.out.c0;clear dd ff ak;go_wp2_with fail
      refine(qk C lo G _ bn 24 d2 0 0 0 _ D2.out (by rw[J.out];exact hb) (by rw[J.out];exact hn)).mono ?_;rintro e w3 ⟨v3,B3,rfl,hl,dd,ff⟩;have D3:Hid (DSt w3 C lo G B3):=dd;have L:Hid (B3.length=nb):=hl.trans J.out;have F3:Hid (FrD C lo G w w3):=F2.out.trans ff;have K3:Hid (ja w3 lo (sq kg 0 kn kcap) l):=D2.out.known ff K2.out;have ac:=D3.out.c0;clear hl dd ff U;have KC:=K3.out.zx HKN.out;have V:kg<w3.heap.size:=K3.out.ltg;have ao:lo≤w3.heap.size:=by have h1:=D3.out.hG;have h2:=D3.out.xx;omega
      go_wp2_with (first | (at_builtin;refine wpList_append_own _ rfl _ _ 30 rfl w3.heap.size 3 i0 (vi 0) 1 8 Tryz.underlying30 hi hz0 hz1 hz2 rfl (by decide) _ 0 [] rfl (show World.ownsRow _ _ _ _ _ _ _ from ke rfl (Nat.le_refl _)) (Z kg 0) kn kcap (l.map (fun x=>vi x)) rfl (by have:=HKN.out;simp;omega) (xM KC V HKN.out) (by intro u hu;obtain⟨z,_,rfl⟩:=List.mem_map.1 hu;rfl) (by omega) (by omega) (by simp) ?_;intro va wa B r _;have OA:Hid (ja wa w3.heap.size va l):=xN B HKN.out;have GA:Hid ((w3.alloc (.cells #[] 3)).grownBy wa (some w3.heap.size)):=r;clear B r) | (at_builtin;refine wpList_append_own _ rfl _ _ 30 rfl w3.heap.size 3 i0 (vi 0) 1 8 Tryz.underlying30 hi hz0 hz1 hz2 rfl (by decide) va kn (l.map (fun x=>vi x)) rfl (World.ownsRow.alloc (by have h:=OA.out;unfold ja at h;rw[HKN.out] at h;exact h) _) (Z wa.heap.size 0) 1 1 [vi d2] rfl rfl (cell_one_new _ _ _) (by simp[Value.oneCell']) (by omega) (by omega) (by have h:=GA.out.size;simp at h ⊢;omega) ?_;intro vb wb H t _;have OB:Hid (ja wb w3.heap.size vb (l ++ [d2])):=zc H HKN.out;have GB:Hid ((wa.alloc (.cells #[vi d2] 3)).grownBy wb va.ownBlock):=t;clear H t))
      go_ret;have bel:=qR GA.out GB.out OA.out;exact⟨_,l ++ [d2],B3,rfl,L.out.trans HNB.out.symm,D3.out.later bel,OB.out.low ao,by simp,by simp,F3.out.trans (FrD.later bel D3.out.cur.lt)⟩
     ·have g2:(x1 == 2)=false:=by simp[e2]
      by_cases e3:x1=3
      ·subst e3;go_wp2_with fail
       refine(kU C lo G _ _ D1.out).mono ?_;rintro e w2 ⟨d2,rfl,dd,ff⟩;have D2:Hid (DSt w2 C lo G B1):=dd;obtain⟨B2,HB2⟩:∃X,Hid (B1=X):=⟨_,rfl⟩;rw[HB2.out] at D2;have J:Hid (B2.length=nb):=by rw[←HB2.out];exact ah.out
       have F2:Hid (FrD C lo G w w2):=F1.out.trans ff;have K2:Hid (ja w2 lo (sq kg 0 kn kcap) l):=D1.out.known ff K1.out;have U:=D2.out.c0;clear dd ff ak;go_wp2_with fail
       refine(kU C lo G _ _ D2.out).mono ?_;rintro e w3 ⟨d3,rfl,dd,ff⟩;have D3:Hid (DSt w3 C lo G B2):=dd;obtain⟨B3,HB3⟩:∃X,Hid (B2=X):=⟨_,rfl⟩;rw[HB3.out] at D3;have L:Hid (B3.length=nb):=by rw[←HB3.out];exact J.out
       have F3:Hid (FrD C lo G w w3):=F2.out.trans ff;have K3:Hid (ja w3 lo (sq kg 0 kn kcap) l):=D2.out.known ff K2.out;have ac:=D3.out.c0;clear dd ff U;go_wp2_with fail
       refine(kU C lo G _ _ D3.out).mono ?_;rintro e w4 ⟨d4,rfl,dd,ff⟩;have D4:Hid (DSt w4 C lo G B3):=dd;obtain⟨B4,HB4⟩:∃X,Hid (B3=X):=⟨_,rfl⟩;rw[HB4.out] at D4;have ai:Hid (B4.length=nb):=by rw[←HB4.out];exact L.out
       have F4:Hid (FrD C lo G w w4):=F3.out.trans ff;have K4:Hid (ja w4 lo (sq kg 0 kn kcap) l):=D3.out.known ff K3.out;have aw:=D4.out.c0;clear dd ff ac;go_wp2_with fail
       refine(yt C w4.heap.size [7,7,7,15] 4 _ (D4.out.cur.later (Bel.alloc _ _)) (by have:=D4.out.cur.lt;omega) rfl (by omega) (by omega) (by intro j hj;have h4:j=0∨j=1∨j=2∨j=3:=(by omega);rcases h4 with rfl|rfl|rfl|rfl <;> simp)).mono ?_;rintro e w5 ⟨z5,rfl,_,hf0,hc⟩;have hf:Fr C w4 w5:=(Fr.xW (Bel.alloc _ _)).trans hf0;clear hf0;have D5:Hid (DSt w5 C lo G B4):=D4.out.draw hf hc;obtain⟨B5,HB5⟩:∃X,Hid (B4=X):=⟨_,rfl⟩;rw[HB5.out] at D5;have ab:Hid (B5.length=nb):=by rw[←HB5.out];exact ai.out
       have F5:Hid (FrD C lo G w w5):=F4.out.trans (FrD.fr hf D4.out.hC D4.out.cur.lt);have K5:Hid (ja w5 lo (sq kg 0 kn kcap) l):=jq K4.out (ju.fr hf D4.out.hC);have aD:=D5.out.c0;clear hf hc aw;go_wp2_with fail
       refine(qk C lo G _ bn 20 d2 0 0 z5 _ D5.out (by rw[ab.out];exact hb) (by rw[ab.out];exact hn)).mono ?_;rintro e w6 ⟨v6,B6,rfl,hl,dd,ff⟩;have D6:Hid (DSt w6 C lo G B6):=dd;have aA:Hid (B6.length=nb):=hl.trans ab.out;have F6:Hid (FrD C lo G w w6):=F5.out.trans ff;have K6:Hid (ja w6 lo (sq kg 0 kn kcap) l):=D5.out.known ff K5.out;have aG:=D6.out.c0;clear hl dd ff aD;go_wp2_with fail
       refine(kG C lo G _ (sq kg 0 kn kcap) l _ D6.out K6.out (by have:=HKN.out;omega) (by have:=HKN.out;omega)).mono ?_;rintro e w7 ⟨d7,rfl,dd,hf⟩;have D7:Hid (DSt w7 C lo G B6):=dd;obtain⟨B7,HB7⟩:∃X,Hid (B6=X):=⟨_,rfl⟩;rw[HB7.out] at D7;have aB:Hid (B7.length=nb):=by rw[←HB7.out];exact aA.out
       have F7:Hid (FrD C lo G w w7):=F6.out.trans (FrD.fr hf D6.out.hC D6.out.cur.lt);have K7:Hid (ja w7 lo (sq kg 0 kn kcap) l):=jq K6.out (ju.fr hf D6.out.hC);have aQ:=D7.out.c0;clear dd hf aG;go_wp2_with fail
       refine(qk C lo G _ bn 4 d3 d7 d2 0 _ D7.out (by rw[aB.out];exact hb) (by rw[aB.out];exact hn)).mono ?_;rintro e w8 ⟨v8,B8,rfl,hl,dd,ff⟩;have D8:Hid (DSt w8 C lo G B8):=dd;have aM:Hid (B8.length=nb):=hl.trans aB.out;have F8:Hid (FrD C lo G w w8):=F7.out.trans ff;have K8:Hid (ja w8 lo (sq kg 0 kn kcap) l):=D7.out.known ff K7.out;have aR:=D8.out.c0;clear hl dd ff aQ;go_wp2_with fail
       refine(YS C 2 _ D8.out.cur).mono ?_;rintro e w9 ⟨ob,rfl,hf,hc⟩;have D9:Hid (DSt w9 C lo G B8):=D8.out.draw hf hc;obtain⟨B9,HB9⟩:∃X,Hid (B8=X):=⟨_,rfl⟩;rw[HB9.out] at D9;have ar:Hid (B9.length=nb):=by rw[←HB9.out];exact aM.out
       have F9:Hid (FrD C lo G w w9):=F8.out.trans (FrD.fr hf D8.out.hC D8.out.cur.lt);have K9:Hid (ja w9 lo (sq kg 0 kn kcap) l):=jq K8.out (ju.fr hf D8.out.hC);have aH:=D9.out.c0;clear hf hc aR;cases ob with
       | true=>
        go_wp2_with fail
        refine(kG C lo G _ (sq kg 0 kn kcap) l _ D9.out K9.out (by have:=HKN.out;omega) (by have:=HKN.out;omega)).mono ?_;rintro e I ⟨d10,rfl,dd,hf⟩;have O:Hid (DSt I C lo G B9):=dd;obtain⟨af,HB10⟩:∃X,Hid (B9=X):=⟨_,rfl⟩;rw[HB10.out] at O;have K:Hid (af.length=nb):=by rw[←HB10.out];exact ar.out
        have ay:Hid (FrD C lo G w I):=F9.out.trans (FrD.fr hf D9.out.hC D9.out.cur.lt);have au:Hid (ja I lo (sq kg 0 kn kcap) l):=jq K9.out (ju.fr hf D9.out.hC);have am:=O.out.c0;clear dd hf aH;go_wp2_with fail
        refine(qk C lo G _ bn 22 0 d3 d10 0 _ O.out (by rw[K.out];exact hb) (by rw[K.out];exact hn)).mono ?_;rintro e aE ⟨v11,B11,rfl,hl,dd,ff⟩;have ax:Hid (DSt aE C lo G B11):=dd;have aa:Hid (B11.length=nb):=hl.trans K.out;have aJ:Hid (FrD C lo G w aE):=ay.out.trans ff;have aN:Hid (ja aE lo (sq kg 0 kn kcap) l):=O.out.known ff au.out;have aC:=ax.out.c0;clear hl dd ff am;go_wp2_with fail
        refine(qk C lo G _ bn 20 d4 0 0 1 _ ax.out (by rw[aa.out];exact hb) (by rw[aa.out];exact hn)).mono ?_;rintro e M ⟨v12,B12,rfl,hl,dd,ff⟩;have ag:Hid (DSt M C lo G B12):=dd;have az:Hid (B12.length=nb):=hl.trans aa.out;have aK:Hid (FrD C lo G w M):=aJ.out.trans ff;have aF:Hid (ja M lo (sq kg 0 kn kcap) l):=ax.out.known ff aN.out;have aP:=ag.out.c0;clear hl dd ff aC;have KC:=aF.out.zx HKN.out;have V:kg<M.heap.size:=aF.out.ltg;have ae:lo≤M.heap.size:=by have h1:=ag.out.hG;have h2:=ag.out.xx;omega
        go_wp2_with (first | (at_builtin;refine wpList_append_own _ rfl _ _ 30 rfl M.heap.size 3 i0 (vi 0) 1 8 Tryz.underlying30 hi hz0 hz1 hz2 rfl (by decide) _ 0 [] rfl (show World.ownsRow _ _ _ _ _ _ _ from ke rfl (Nat.le_refl _)) (Z kg 0) kn kcap (l.map (fun x=>vi x)) rfl (by have:=HKN.out;simp;omega) (xM KC V HKN.out) (by intro u hu;obtain⟨z,_,rfl⟩:=List.mem_map.1 hu;rfl) (by omega) (by omega) (by simp) ?_;intro va wa B r _;have OA:Hid (ja wa M.heap.size va l):=xN B HKN.out;have GA:Hid ((M.alloc (.cells #[] 3)).grownBy wa (some M.heap.size)):=r;clear B r) | (at_builtin;refine wpList_append_own _ rfl _ _ 30 rfl M.heap.size 3 i0 (vi 0) 1 8 Tryz.underlying30 hi hz0 hz1 hz2 rfl (by decide) va kn (l.map (fun x=>vi x)) rfl (World.ownsRow.alloc (by have h:=OA.out;unfold ja at h;rw[HKN.out] at h;exact h) _) (Z wa.heap.size 0) 3 3 [vi d2,vi d3,vi d4] rfl rfl (zN _ _ _ _ _) (by simp[Value.oneCell']) (by omega) (by omega) (by have h:=GA.out.size;simp at h ⊢;omega) ?_;intro vb wb H t _;have OB:Hid (ja wb M.heap.size vb (l ++ [d2,d3,d4])):=Qg H HKN.out;have GB:Hid ((wa.alloc (.cells #[vi d2,vi d3,vi d4] 3)).grownBy wb va.ownBlock):=t;clear H t))
        go_ret;have bel:=qR GA.out GB.out OA.out;exact⟨_,l ++ [d2,d3,d4],B12,rfl,az.out.trans HNB.out.symm,ag.out.later bel,OB.out.low ae,by simp,by simp,aK.out.trans (FrD.later bel ag.out.cur.lt)⟩
       | false=>
        go_wp2_with fail
        refine(qk C lo G _ bn 21 d4 d3 0 0 _ D9.out (by rw[ar.out];exact hb) (by rw[ar.out];exact hn)).mono ?_;rintro e I ⟨v10,af,rfl,hl,dd,ff⟩;have O:Hid (DSt I C lo G af):=dd;have K:Hid (af.length=nb):=hl.trans ar.out;have ay:Hid (FrD C lo G w I):=F9.out.trans ff;have au:Hid (ja I lo (sq kg 0 kn kcap) l):=D9.out.known ff K9.out;have am:=O.out.c0;clear hl dd ff aH;have KC:=au.out.zx HKN.out;have V:kg<I.heap.size:=au.out.ltg;have ad:lo≤I.heap.size:=by have h1:=O.out.hG;have h2:=O.out.xx;omega
        go_wp2_with (first | (at_builtin;refine wpList_append_own _ rfl _ _ 30 rfl I.heap.size 3 i0 (vi 0) 1 8 Tryz.underlying30 hi hz0 hz1 hz2 rfl (by decide) _ 0 [] rfl (show World.ownsRow _ _ _ _ _ _ _ from ke rfl (Nat.le_refl _)) (Z kg 0) kn kcap (l.map (fun x=>vi x)) rfl (by have:=HKN.out;simp;omega) (xM KC V HKN.out) (by intro u hu;obtain⟨z,_,rfl⟩:=List.mem_map.1 hu;rfl) (by omega) (by omega) (by simp) ?_;intro va wa B r _;have OA:Hid (ja wa I.heap.size va l):=xN B HKN.out;have GA:Hid ((I.alloc (.cells #[] 3)).grownBy wa (some I.heap.size)):=r;clear B r) | (at_builtin;refine wpList_append_own _ rfl _ _ 30 rfl I.heap.size 3 i0 (vi 0) 1 8 Tryz.underlying30 hi hz0 hz1 hz2 rfl (by decide) va kn (l.map (fun x=>vi x)) rfl (World.ownsRow.alloc (by have h:=OA.out;unfold ja at h;rw[HKN.out] at h;exact h) _) (Z wa.heap.size 0) 3 3 [vi d2,vi d3,vi d4] rfl rfl (zN _ _ _ _ _) (by simp[Value.oneCell']) (by omega) (by omega) (by have h:=GA.out.size;simp at h ⊢;omega) ?_;intro vb wb H t _;have OB:Hid (ja wb I.heap.size vb (l ++ [d2,d3,d4])):=Qg H HKN.out;have GB:Hid ((wa.alloc (.cells #[vi d2,vi d3,vi d4] 3)).grownBy wb va.ownBlock):=t;clear H t))
        go_ret;have bel:=qR GA.out GB.out OA.out;exact⟨_,l ++ [d2,d3,d4],af,rfl,K.out.trans HNB.out.symm,O.out.later bel,OB.out.low ad,by simp,by simp,ay.out.trans (FrD.later bel O.out.cur.lt)⟩
      ·have g3:(x1 == 3)=false:=by simp[e3]
       go_wp2_with fail
       refine(kU C lo G _ _ D1.out).mono ?_;rintro e w2 ⟨d2,rfl,dd,ff⟩;have D2:Hid (DSt w2 C lo G B1):=dd;obtain⟨B2,HB2⟩:∃X,Hid (B1=X):=⟨_,rfl⟩;rw[HB2.out] at D2;have J:Hid (B2.length=nb):=by rw[←HB2.out];exact ah.out
       have F2:Hid (FrD C lo G w w2):=F1.out.trans ff;have K2:Hid (ja w2 lo (sq kg 0 kn kcap) l):=D1.out.known ff K1.out;have U:=D2.out.c0;clear dd ff ak;go_wp2_with fail
       refine(jH C 10 _ D2.out.cur).mono ?_;rintro e w3 ⟨x3,rfl,hx3,hy3,_,hf,hc⟩;have D3:Hid (DSt w3 C lo G B2):=D2.out.draw hf hc;obtain⟨B3,HB3⟩:∃X,Hid (B2=X):=⟨_,rfl⟩;rw[HB3.out] at D3;have L:Hid (B3.length=nb):=by rw[←HB3.out];exact J.out
       have F3:Hid (FrD C lo G w w3):=F2.out.trans (FrD.fr hf D2.out.hC D2.out.cur.lt);have K3:Hid (ja w3 lo (sq kg 0 kn kcap) l):=jq K2.out (ju.fr hf D2.out.hC);have ac:=D3.out.c0;clear hf hc U;have aT:=hy3 (by omega);clear hy3;go_wp2_with fail
       refine(kG C lo G _ (sq kg 0 kn kcap) l _ D3.out K3.out (by have:=HKN.out;omega) (by have:=HKN.out;omega)).mono ?_;rintro e w4 ⟨d4,rfl,dd,hf⟩;have D4:Hid (DSt w4 C lo G B3):=dd;obtain⟨B4,HB4⟩:∃X,Hid (B3=X):=⟨_,rfl⟩;rw[HB4.out] at D4;have ai:Hid (B4.length=nb):=by rw[←HB4.out];exact L.out
       have F4:Hid (FrD C lo G w w4):=F3.out.trans (FrD.fr hf D3.out.hC D3.out.cur.lt);have K4:Hid (ja w4 lo (sq kg 0 kn kcap) l):=jq K3.out (ju.fr hf D3.out.hC);have aw:=D4.out.c0;clear dd hf ac;go_wp2_with fail
       refine(kG C lo G _ (sq kg 0 kn kcap) l _ D4.out K4.out (by have:=HKN.out;omega) (by have:=HKN.out;omega)).mono ?_;rintro e w5 ⟨d5,rfl,dd,hf⟩;have D5:Hid (DSt w5 C lo G B4):=dd;obtain⟨B5,HB5⟩:∃X,Hid (B4=X):=⟨_,rfl⟩;rw[HB5.out] at D5;have ab:Hid (B5.length=nb):=by rw[←HB5.out];exact ai.out
       have F5:Hid (FrD C lo G w w5):=F4.out.trans (FrD.fr hf D4.out.hC D4.out.cur.lt);have K5:Hid (ja w5 lo (sq kg 0 kn kcap) l):=jq K4.out (ju.fr hf D4.out.hC);have aD:=D5.out.c0;clear dd hf aw;go_wp2_with fail
       refine(qk C lo G _ bn (1+x3) d2 d4 d5 0 _ D5.out (by rw[ab.out];exact hb) (by rw[ab.out];exact hn)).mono ?_;rintro e w6 ⟨v6,B6,rfl,hl,dd,ff⟩;have D6:Hid (DSt w6 C lo G B6):=dd;have aA:Hid (B6.length=nb):=hl.trans ab.out;have F6:Hid (FrD C lo G w w6):=F5.out.trans ff;have K6:Hid (ja w6 lo (sq kg 0 kn kcap) l):=D5.out.known ff K5.out;have aG:=D6.out.c0;clear hl dd ff aD;have KC:=K6.out.zx HKN.out;have V:kg<w6.heap.size:=K6.out.ltg;have aq:lo≤w6.heap.size:=by have h1:=D6.out.hG;have h2:=D6.out.xx;omega
       go_wp2_with (first | (at_builtin;refine wpList_append_own _ rfl _ _ 30 rfl w6.heap.size 3 i0 (vi 0) 1 8 Tryz.underlying30 hi hz0 hz1 hz2 rfl (by decide) _ 0 [] rfl (show World.ownsRow _ _ _ _ _ _ _ from ke rfl (Nat.le_refl _)) (Z kg 0) kn kcap (l.map (fun x=>vi x)) rfl (by have:=HKN.out;simp;omega) (xM KC V HKN.out) (by intro u hu;obtain⟨z,_,rfl⟩:=List.mem_map.1 hu;rfl) (by omega) (by omega) (by simp) ?_;intro va wa B r _;have OA:Hid (ja wa w6.heap.size va l):=xN B HKN.out;have GA:Hid ((w6.alloc (.cells #[] 3)).grownBy wa (some w6.heap.size)):=r;clear B r) | (at_builtin;refine wpList_append_own _ rfl _ _ 30 rfl w6.heap.size 3 i0 (vi 0) 1 8 Tryz.underlying30 hi hz0 hz1 hz2 rfl (by decide) va kn (l.map (fun x=>vi x)) rfl (World.ownsRow.alloc (by have h:=OA.out;unfold ja at h;rw[HKN.out] at h;exact h) _) (Z wa.heap.size 0) 1 1 [vi d2] rfl rfl (cell_one_new _ _ _) (by simp[Value.oneCell']) (by omega) (by omega) (by have h:=GA.out.size;simp at h ⊢;omega) ?_;intro vb wb H t _;have OB:Hid (ja wb w6.heap.size vb (l ++ [d2])):=zc H HKN.out;have GB:Hid ((wa.alloc (.cells #[vi d2] 3)).grownBy wb va.ownBlock):=t;clear H t))
       go_ret;have bel:=qR GA.out GB.out OA.out;exact⟨_,l ++ [d2],B6,rfl,aA.out.trans HNB.out.symm,D6.out.later bel,OB.out.low aq,by simp,by simp,F6.out.trans (FrD.later bel D6.out.cur.lt)⟩
def Kc : Nat→Nat
 | 0=>0
 | d+1=>15+10*Kc d
def QH (C lo G:Nat)(bs:List Bk)(l:List Int)(kb ka:Nat)(w:World)(e:Ending)(w':World):Prop :=
 ∃(b':Nat) (kv':Value) (l':List Int) (bs':List Bk),e=.returned (.tuple #[vi (b':Int),kv'])∧b'<bs'.length∧bs.length≤bs'.length∧bs'.length≤bs.length+kb∧DSt w' C lo G bs'∧ja w' lo kv' l'∧0<l'.length∧l'.length≤l.length+ka∧FrD C lo G w w'
def Kg (C lo G d:Nat):Prop := ∀(bs:List Bk) (bn:Nat) (kv:Value) (l:List Int) (w:World),DSt w C lo G bs→bn<bs.length→bs.length+Kc d≤900→ja w lo kv l→0<l.length→l.length+18*(d+1)≤800 →
 Calls Tryz.prog 106 #[.pointer (some (Z G 0)),vi (bn:Int),kv,vi (d:Int)] w fun e w'=>QH C lo G bs l (Kc d) 15 w e w'
theorem jE.xH {w:World}{C lo G g cap:Nat}{bs:List Bk}{vals:Int}(h:jE w C lo G (sq g 0 bs.length cap) bs vals){i:Nat}{b:Bk}(hb:bs[i]?=some b)(k a t e:Int) :
  jE ((((w.setCell (Z g (i*6+2)) (vi k)).setCell (Z g (i*6+3)) (vi a)).setCell (Z g (i*6+4)) (vi t)).setCell (Z g (i*6+5)) (vi e)) C lo G (sq g 0 bs.length cap) (bs.set i { b with k:=k,a:=a,t:=t,e:=e }) vals:=by
 have r:i<bs.length:=by
  by_cases e:i<bs.length
  ·exact e
  ·rw[List.getElem?_eq_none (by omega)] at hb;cases hb
 have step:∀{w:World} {bs:List Bk} (h:jE w C lo G (sq g 0 bs.length cap) bs vals) {b b':Bk} {j:Nat} {u:Value} (hb:bs[i]?=some b) (hj:j<6) (hc:b'.cells=b.cells.set j u) (e1:b'.lv=b.lv) (e2:b'.ln=b.ln) (e3:b'.pv=b.pv) (e4:b'.pn=b.pn),
   jE (w.setCell (Z g (i*6+j)) u) C lo G (sq g 0 bs.length cap) (bs.set i b') vals:=by
  intro w bs h b b' j u hb hj hc e1 e2 e3 e4;refine(h.but i).setCell hb hj hc (by rw[e1,e2];exact h.ins i b hb) (by rw[e3,e4];exact h.phi i b hb) (fun m y hm hy=>?_) (fun m y hm hy=>?_)
  ·rw[e1];exact⟨h.apL i m b y (fun e=>hm e.symm) hb hy,h.apL m i y b hm hy hb⟩
  ·rw[e3];exact⟨h.apP i m b y (fun e=>hm e.symm) hb hy,h.apP m i y b hm hy hb⟩
 have g1:=step h (b' := { b with k:=k }) (j:=2) (u:=vi k) hb (by omega) rfl rfl rfl rfl rfl;have l1:(bs.set i { b with k:=k }).length=bs.length:=List.length_set;rw[←l1] at g1;have g2:=step g1 (b' := { b with k:=k,a:=a }) (j:=3) (u:=vi a) (List.getElem?_set_self r) (by omega) rfl rfl rfl rfl rfl;rw[List.set_set,l1] at g2;have l2:(bs.set i { b with k:=k,a:=a }).length=bs.length:=List.length_set;rw[←l2] at g2;have g3:=step g2 (b' := { b with k:=k,a:=a,t:=t }) (j:=4) (u:=vi t) (List.getElem?_set_self r) (by omega) rfl rfl rfl rfl rfl;rw[List.set_set,l2] at g3;have l3:(bs.set i { b with k:=k,a:=a,t:=t }).length=bs.length:=List.length_set;rw[←l3] at g3;have g4:=step g3 (b' := { b with k:=k,a:=a,t:=t,e:=e }) (j:=5) (u:=vi e) (List.getElem?_set_self r) (by omega) rfl rfl rfl rfl rfl;rw[List.set_set,l3] at g4;exact g4
theorem DSt.open {w:World}{C lo G:Nat}{bs:List Bk}(h:DSt w C lo G bs){i:Nat}(hi:i<bs.length) :
  ∃g cap vals x,bs[i]?=some x∧jE w C lo G (sq g 0 bs.length cap) bs vals∧w.cell? (Z G 1)=some (sq g 0 bs.length cap)∧lo≤g∧g<w.heap.size ∧
   w.cell? (Z g (i*6))=some x.pv∧(∃u,w.cell? (Z g (i*6+2))=some u)∧(∃u,w.cell? (Z g (i*6+3))=some u)∧(∃u,w.cell? (Z g (i*6+4))=some u)∧(∃u,w.cell? (Z g (i*6+5))=some u)∧∀j,w.frozen? (Z g j)=false:=by
 obtain⟨bv,vals,hg⟩:=h.gen;have hx:bs[i]?=some bs[i]:=List.getElem?_eq_getElem hi;obtain⟨g,cap,rfl,hlo,hgl,hgG,hc,hf⟩:=hg.at hx;exact⟨g,cap,vals,_,hx,hg,hg.cells.2.1,hlo,hgl,hc 0 _ (by omega) rfl,⟨_,hc 2 _ (by omega) rfl⟩,⟨_,hc 3 _ (by omega) rfl⟩,⟨_,hc 4 _ (by omega) rfl⟩,⟨_,hc 5 _ (by omega) rfl⟩,hf⟩
theorem DSt.xH {w:World}{C lo G g cap:Nat}{bs:List Bk}{vals:Int}(H:DSt w C lo G bs)(h:jE w C lo G (sq g 0 bs.length cap) bs vals){i:Nat}{b:Bk}(hb:bs[i]?=some b)(k a t e:Int) :
  DSt ((((w.setCell (Z g (i*6+2)) (vi k)).setCell (Z g (i*6+3)) (vi a)).setCell (Z g (i*6+4)) (vi t)).setCell (Z g (i*6+5)) (vi e)) C lo G (bs.set i { b with k:=k,a:=a,t:=t,e:=e }) ∧
  FrD C lo G w ((((w.setCell (Z g (i*6+2)) (vi k)).setCell (Z g (i*6+3)) (vi a)).setCell (Z g (i*6+4)) (vi t)).setCell (Z g (i*6+5)) (vi e)):=by
 have I:lo≤g:=(World.ownsRow.lt h.row g rfl).1;have J:=H.cur.lt;have gg:w.grownBy ((((w.setCell (Z g (i*6+2)) (vi k)).setCell (Z g (i*6+3)) (vi a)).setCell (Z g (i*6+4)) (vi t)).setCell (Z g (i*6+5)) (vi e)) (some g) :=
  ⟨rfl,rfl,rfl,by simp[World.setCell],fun m hm hk=>by
   have B:m≠g:=fun e=>hk (by rw[e])
   rw[Below.heap_setCell _ _ _ m B,Below.heap_setCell _ _ _ m B,Below.heap_setCell _ _ _ m B,Below.heap_setCell _ _ _ m B]⟩
 refine⟨⟨H.hC,H.hG,H.cur.below H.hC ((Below.refl lo w).grown gg (by have:=H.hG;have:=H.xx;omega) (fun j hj=>by cases hj;exact I)),_,_,h.xH hb k a t e⟩,FrD.Kf gg H.hC J (fun r hr=>?_)⟩;cases hr
 obtain⟨c,hc⟩:=jo h.row g rfl;exact⟨I,.inr ⟨_,_,_,hc,.inl rfl⟩⟩
theorem DSt.agL {w:World}{C lo G g cap:Nat}{bs:List Bk}{vals:Int}(H:DSt w C lo G bs)(h:jE w C lo G (sq g 0 bs.length cap) bs vals){i:Nat}{b:Bk}(hb:bs[i]?=some b){pv:Value}{pn:Nat}(hp:qJ w lo pv pn)(hnew:∀(m:Nat) (y:Bk),bs[m]?=some y→KU pv y.pv∧KU y.pv pv) :
  DSt (w.setCell (Z g (i*6)) pv) C lo G (bs.set i { b with pv:=pv,pn:=pn })∧FrD C lo G w (w.setCell (Z g (i*6)) pv):=by
 have t:lo≤g:=(World.ownsRow.lt h.row g rfl).1;have B:=H.cur.lt;have gs:=(h.but i).setCell (b' := { b with pv:=pv,pn:=pn }) (j:=0) (u:=pv) hb (by omega) rfl (h.ins i b hb) hp (fun m y hm hy=>⟨h.apL i m b y (fun e=>hm e.symm) hb hy,h.apL m i y b hm hy hb⟩) (fun m y hm hy=>hnew m y hy);have gg:=qX w g (i*6) pv;refine⟨⟨H.hC,H.hG,H.cur.below H.hC ((Below.refl lo w).setCell (p:=(Z g (i*6))) t _),_,_,gs⟩,FrD.Kf gg H.hC B (fun r hr=>?_)⟩;cases hr
 obtain⟨c,hc⟩:=jo h.row g rfl;exact⟨t,.inr ⟨_,_,_,hc,.inl rfl⟩⟩
theorem DSt.drew {w:World}{C lo G:Nat}{bs:List Bk}(h:DSt w C lo G bs):DSt w.drew C lo G bs:=by
 obtain⟨bv,vals,hg⟩:=h.gen;exact⟨h.hC,h.hG,h.cur,bv,vals,⟨hg.box,hg.row,hg.ins,hg.phi,hg.apL,hg.apP⟩⟩
theorem kL.two {W:World}{lo b:Nat}{a0 a1 a2 a3:Int}(h:W.heap[b]?=some (.cells #[vi a0,vi a1,vi a2,vi a3] 143 (0,0)))(hlo:lo≤b):kL W lo (sq b 0 2 2) 2:=by
 refine⟨_,_,rfl,Nat.le_refl _,by omega,fun _=>⟨b,0,_,rfl,hlo,h,fun j hj=>?_⟩⟩;have h4:j=0∨j=1∨j=2∨j=3:=by omega
 rcases h4 with rfl|rfl|rfl|rfl <;> simp
theorem onePhi {w W:World}{C lo G g cap i:Nat}{bs:List Bk}{vals a0 a1 a2 a3 d:Int}{b:Bk}(H:DSt w C lo G bs)(h:jE w C lo G (sq g 0 bs.length cap) bs vals)(hb:bs[i]?=some b)
  (hW:((w.alloc (.cells #[vi a0,vi a1,vi a2,vi a3] 143)).alloc (.cells #[vi d,sq w.heap.size 0 2 2] 107)).setCell (Z g (i*6)) (sq (w.heap.size+1) 0 1 1)=W) :
  ∃bs',bs'.length=bs.length∧DSt W C lo G bs'∧FrD C lo G w W:=by
 subst hW;have r:lo≤w.heap.size:=by have:=H.hG;have:=H.xx;omega
 have b2:Below w.heap.size w ((w.alloc (.cells #[vi a0,vi a1,vi a2,vi a3] 143)).alloc (.cells #[vi d,sq w.heap.size 0 2 2] 107)):=by repeat (first | exact Below.refl _ _ | apply Below.drew | refine Below.alloc ?_ (by simp <;> omega) _ | refine Below.setCell ?_ (by simp <;> omega) _)
 have e1:((w.alloc (.cells #[vi a0,vi a1,vi a2,vi a3] 143)).alloc (.cells #[vi d,sq w.heap.size 0 2 2] 107)).heap[w.heap.size]?=some (.cells #[vi a0,vi a1,vi a2,vi a3] 143 (0,0)):=by
  rw[Below.heap_alloc _ _ _ (by simp)];exact World.alloc_heap_new w _
 have e2:((w.alloc (.cells #[vi a0,vi a1,vi a2,vi a3] 143)).alloc (.cells #[vi d,sq w.heap.size 0 2 2] 107)).heap[w.heap.size+1]?=some (.cells #[vi d,sq w.heap.size 0 2 2] 107 (0,0)):=by
  have h:=World.alloc_heap_new (w.alloc (.cells #[vi a0,vi a1,vi a2,vi a3] 143)) (.cells #[vi d,sq w.heap.size 0 2 2] 107);rw[World.size_alloc] at h;exact h
 have hp:qJ _ lo (sq (w.heap.size+1) 0 1 1) 1:=⟨[vi d,sq w.heap.size 0 2 2],⟨rfl,.inr ⟨_,1,_,rfl,by omega,e2,Nat.le_refl _,by decide,rfl,rfl⟩⟩,fun j hj=>by
  have:j=0:=by omega
  subst this
  exact⟨d,_,2,rfl,rfl,kL.two e1 r,by omega⟩,by omega⟩
 have hs:=(H.later b2).agL (h.lo H.hG (ju.later b2)) hb hp (fun m y hy=>by
  obtain⟨ys,hys,_⟩:=h.phi m y hy;refine⟨fun k hk e=>?_,fun k hk e=>?_⟩
  ·have h1:=k9 hys k e;have h2:w.heap.size+1=k:=by simpa [Value.ownBlock] using hk
   omega
  ·have h1:=k9 hys k hk;have h2:w.heap.size+1=k:=by simpa [Value.ownBlock] using e
   omega)
 exact⟨_,List.length_set,hs.1,(FrD.later b2 H.cur.lt).trans hs.2⟩
theorem qC {w:World}{a:Addr}{v:Value}(o:Obj)(h:w.cell? a=some v):(w.alloc o).cell? a=some v :=
 (World.cell?_alloc_some w a o (by rw[h];rfl)).trans h
theorem ja.isSlice {w:World}{lo:Nat}{v:Value}{l:List Int}(h:ja w lo v l)(h0:0<l.length):∃g cap,v=sq g 0 l.length cap:=by
 rcases h.2 with ⟨_,e⟩ | ⟨g,cap,cur,e,_⟩
 ·omega
 ·exact⟨g,cap,e⟩
theorem agM (C lo G d:Nat)(hcode:Kg C lo G d)(hd:d≤10)(bs:List Bk)(bn:Nat)(kv:Value)(l:List Int)(w0:World)(h:DSt w0 C lo G bs)(hb:bn<bs.length)(hn:bs.length+(2+Kc d)≤900)(hk:ja w0 lo kv l)(h0:0<l.length)(h1:l.length+18*(d+1)≤800) :
  Calls Tryz.prog 125 #[.pointer (some (Z G 0)),vi (bn:Int),kv,vi (d:Int)] w0 fun e w'=>QH C lo G bs l (2+Kc d) 1 w0 e w':=by
 have I:Hid (Kg C lo G d):=hcode;have D0:Hid (DSt w0 C lo G bs):=h;obtain⟨nb,HNB⟩:∃n,Hid (bs.length=n):=⟨_,rfl⟩;obtain⟨kn,HKN⟩:∃n,Hid (l.length=n):=⟨_,rfl⟩;obtain⟨kg,kcap,hkv⟩:=hk.isSlice h0;rw[HKN.out] at hkv;subst hkv;have ap:Hid (ja w0 lo (sq kg 0 kn kcap) l):=hk;rw[HNB.out] at hb hn;rw[HKN.out] at h0 h1;have L:=HKN;obtain⟨i0,hi,hz0,hz1,hz2⟩:=info_parts y7;have aR:100000≤maxLen:=by decide
 obtain⟨B0,HB0⟩:∃X,Hid (bs=X):=⟨_,rfl⟩;obtain⟨n0,hn0⟩:∃n,n=nb:=⟨_,rfl⟩;have aD:Hid (B0.length=n0):=by rw[←HB0.out,hn0];exact HNB.out
 rw[HB0.out] at D0;obtain⟨w,HW⟩:∃W,Hid (W=w0):=⟨_,rfl⟩;have F0:Hid (FrD C lo G w w0):=by rw[HW.out];exact FrD.refl _ _ _ _
 have a6:=D0.out.c0;obtain⟨kc,HKC⟩:∃k,Hid (Kc d=k):=⟨_,rfl⟩;rw[HKC.out] at hn;have bl:=HKC.out;clear h hk hcode;go_enter Tryz.func125,Tryz.ntmps125
 go_wp2_with fail
 refine(kG C lo G _ (sq kg 0 kn kcap) l _ D0.out ap.out (by have:=L.out;omega) (by have:=L.out;omega)).mono ?_;rintro e w1 ⟨d1,rfl,dd,hf⟩;have D1:Hid (DSt w1 C lo G B0):=dd;obtain⟨B1,HB1⟩:∃X,Hid (B0=X):=⟨_,rfl⟩;rw[HB1.out] at D1;have ad:Hid (B1.length=n0):=by rw[←HB1.out];exact aD.out
 obtain⟨n1,hn1⟩:∃n,n=n0:=⟨_,rfl⟩;rw[←hn1] at ad;have F1:Hid (FrD C lo G w w1):=F0.out.trans (FrD.fr hf D0.out.hC D0.out.cur.lt);have aG:Hid (ja w1 lo (sq kg 0 kn kcap) l):=jq ap.out (ju.fr hf D0.out.hC);have a7:=D1.out.c0;clear dd hf a6;go_wp2_with fail
 refine(qu C lo G _ _ D1.out (by have:=ad.out;omega)).mono ?_;rintro e w2 ⟨rfl,dd,ff⟩;rw[ad.out];have D2:Hid (DSt w2 C lo G (B1 ++ [bk0])):=dd;obtain⟨B2,HB2⟩:∃X,Hid (B1 ++ [bk0]=X):=⟨_,rfl⟩;rw[HB2.out] at D2;obtain⟨n2,hn2⟩:∃n,n=n1+1:=⟨_,rfl⟩;have ah:Hid (B2.length=n2):=by
  have h:=congrArg List.length HB2.out;rw[List.length_append,ad.out] at h;rw[hn2];exact h.symm
 obtain⟨yes,HQyes⟩:∃q,n1=q:=⟨_,rfl⟩;have F2:Hid (FrD C lo G w w2):=F1.out.trans ff;have aq:Hid (ja w2 lo (sq kg 0 kn kcap) l):=D1.out.known ff aG.out;have bb:=D2.out.c0;rw[HQyes];clear dd ff a7;go_wp2_with fail
 refine(I.out B2 yes (sq kg 0 kn kcap) l _ D2.out (by have:=ah.out;omega) (by have:=ah.out;omega) aq.out (by have:=L.out;omega) (by have:=L.out;omega)).mono ?_;rintro e w3 ⟨y,kv3,ly,B3,rfl,hy1,hy2,hy3,dd,hk,hk0,hk1,ff⟩;have D3:Hid (DSt w3 C lo G B3):=dd;obtain⟨n3,HL3⟩:∃n,Hid (B3.length=n):=⟨_,rfl⟩;obtain⟨V,Hkny⟩:∃n,Hid (ly.length=n):=⟨_,rfl⟩;rw[HL3.out] at hy1 hy2 hy3;rw[ah.out] at hy2 hy3;rw[Hkny.out] at hk0 hk1;rw[L.out] at hk1;have Ry:=hy1;have bz:=hy2;have bA:=hy3;have a4:=hk0;have a5:=hk1;obtain⟨O,caply,hkv3⟩:=hk.isSlice (by rw[Hkny.out];exact hk0);rw[Hkny.out] at hkv3;subst hkv3;have F3:Hid (FrD C lo G w w3):=F2.out.trans ff;have aN:Hid (ja w3 lo (sq O 0 V caply) ly):=hk;have aH:Hid (ja w3 lo (sq kg 0 kn kcap) l):=D2.out.known ff aq.out;have bc:=D3.out.c0;clear dd ff hk hk0 hk1 hy1 hy2 hy3 bb;go_wp2_with fail
 refine(qu C lo G _ _ D3.out (by have:=HL3.out;omega)).mono ?_;rintro e w4 ⟨rfl,dd,ff⟩;rw[HL3.out];have D4:Hid (DSt w4 C lo G (B3 ++ [bk0])):=dd;obtain⟨B4,HB4⟩:∃X,Hid (B3 ++ [bk0]=X):=⟨_,rfl⟩;rw[HB4.out] at D4;obtain⟨n4,hn4⟩:∃n,n=n3+1:=⟨_,rfl⟩;have ai:Hid (B4.length=n4):=by
  have h:=congrArg List.length HB4.out;rw[List.length_append,HL3.out] at h;rw[hn4];exact h.symm
 obtain⟨en,HQen⟩:∃q,n3=q:=⟨_,rfl⟩;have F4:Hid (FrD C lo G w w4):=F3.out.trans ff;have aJ:Hid (ja w4 lo (sq kg 0 kn kcap) l):=D3.out.known ff aH.out;have aO:Hid (ja w4 lo (sq O 0 V caply) ly):=D3.out.known ff aN.out;have bd:=D4.out.c0;rw[HQen];clear dd ff bc;obtain⟨g5,cap5,vals5,xx5,hxx5,gs5,c15,hlo5,hgl5,_,⟨u25,t25⟩,⟨u35,t35⟩,⟨u45,t45⟩,⟨u55,t55⟩,hfz5⟩:=D4.out.open (i:=bn) (by have:=ai.out;omega);have bo:=hfz5 (bn*6+2);have bq:=hfz5 (bn*6+3);have bt:=hfz5 (bn*6+4);have bv:=hfz5 (bn*6+5);obtain⟨au,ff⟩:=D4.out.xH gs5 hxx5 2 d1 (yes:Int) (en:Int);obtain⟨w5,hw5⟩:∃W,(((w4.setCell (Z g5 (bn*6+2)) (vi 2)).setCell (Z g5 (bn*6+3)) (vi d1)).setCell (Z g5 (bn*6+4)) (vi (yes:Int))).setCell (Z g5 (bn*6+5)) (vi (en:Int))=W:=⟨_,rfl⟩;rw[hw5] at au ff;rw[ai.out] at c15;have aA:Hid (DSt w5 C lo G _):=au;obtain⟨B5,HB5⟩:∃X,Hid (B4.set bn { xx5 with k:=2,a:=d1,t:=(yes:Int),e:=(en:Int) }=X):=⟨_,rfl⟩;have D5:Hid (DSt w5 C lo G B5):=by rw[←HB5.out];exact aA.out
 obtain⟨n5,hn5⟩:∃n,n=n4:=⟨_,rfl⟩;have aj:Hid (B5.length=n5):=by
  have h:=congrArg List.length HB5.out;rw[List.length_set,ai.out] at h;rw[hn5];exact h.symm
 have F5:Hid (FrD C lo G w w5):=F4.out.trans ff;have bi:(bn:Int)<(n4:Int):=by omega
 have aK:Hid (ja w5 lo (sq kg 0 kn kcap) l):=D4.out.known ff aJ.out;have aP:Hid (ja w5 lo (sq O 0 V caply) ly):=D4.out.known ff aO.out;have be:=D5.out.c0;clear au aA hfz5 ff gs5;obtain⟨g6,cap6,vals6,xx6,hxx6,gs6,c16,hlo6,hgl6,_,⟨u26,t26⟩,⟨u36,t36⟩,⟨u46,t46⟩,⟨u56,t56⟩,hfz6⟩:=D5.out.open (i:=y) (by have:=aj.out;omega);have bp:=hfz6 (y*6+2);have br:=hfz6 (y*6+3);have bu:=hfz6 (y*6+4);have bw:=hfz6 (y*6+5);obtain⟨aw,ff⟩:=D5.out.xH gs6 hxx6 1 0 (en:Int) 0;obtain⟨w6,hw6⟩:∃W,(((w5.setCell (Z g6 (y*6+2)) (vi 1)).setCell (Z g6 (y*6+3)) (vi 0)).setCell (Z g6 (y*6+4)) (vi (en:Int))).setCell (Z g6 (y*6+5)) (vi 0)=W:=⟨_,rfl⟩;rw[hw6] at aw ff;rw[aj.out] at c16;have aB:Hid (DSt w6 C lo G _):=aw;obtain⟨B6,HB6⟩:∃X,Hid (B5.set y { xx6 with k:=1,a:=0,t:=(en:Int),e:=0 }=X):=⟨_,rfl⟩;have D6:Hid (DSt w6 C lo G B6):=by rw[←HB6.out];exact aB.out
 obtain⟨n6,hn6⟩:∃n,n=n5:=⟨_,rfl⟩;have aE:Hid (B6.length=n6):=by
  have h:=congrArg List.length HB6.out;rw[List.length_set,aj.out] at h;rw[hn6];exact h.symm
 have F6:Hid (FrD C lo G w w6):=F5.out.trans ff;have bj:(y:Int)<(n5:Int):=by omega
 have aL:Hid (ja w6 lo (sq kg 0 kn kcap) l):=D5.out.known ff aK.out;have aQ:Hid (ja w6 lo (sq O 0 V caply) ly):=D5.out.known ff aP.out;have bf:=D6.out.c0;clear aw aB hfz6 ff gs6;go_wp2_with fail
 try rw[hw5]
 clear hw5 t25 t35 t45 t55 bo bq bt bv c15 bd;try rw[hw6]
 clear hw6 t26 t36 t46 t56 bp br bu bw c16 be;refine(kU C lo G _ _ D6.out).mono ?_;rintro e w7 ⟨ab,rfl,dd,ff⟩;have D7:Hid (DSt w7 C lo G B6):=dd;obtain⟨B7,HB7⟩:∃X,Hid (B6=X):=⟨_,rfl⟩;rw[HB7.out] at D7;have ae:Hid (B7.length=n6):=by rw[←HB7.out];exact aE.out
 obtain⟨n7,am⟩:∃n,n=n6:=⟨_,rfl⟩;rw[←am] at ae;have F7:Hid (FrD C lo G w w7):=F6.out.trans ff;have aM:Hid (ja w7 lo (sq kg 0 kn kcap) l):=D6.out.known ff aL.out;have aY:Hid (ja w7 lo (sq O 0 V caply) ly):=D6.out.known ff aQ.out;have bg:=D7.out.c0;clear dd ff bf;obtain⟨g8,cap8,vals8,xx8,hxx8,gs8,c18,hlo8,hgl8,q08,_,_,_,_,hfz8⟩:=D7.out.open (i:=en) (by have:=ae.out;omega);have aS:=hfz8 (en*6);rw[ae.out] at c18;have bF:(en:Int)<(n7:Int):=by omega
 have bx:Hid (jE w7 C lo G (sq g8 0 B7.length cap8) B7 vals8):=gs8;have aV:Hid (B7[en]?=some xx8):=hxx8;have bD:C<g8:=by have:=D7.out.hC;omega
 have bC:C<G:=by have h1:=D7.out.hC;have h2:=D7.out.hG;omega
 have ak:G<w7.heap.size:=D7.out.xx;have ag:g8≠G:=by
  obtain⟨g',cap',e,_,_,hne,_⟩:=gs8.at hxx8;cases e
  exact hne
 have bh:G≠g8:=fun e=>ag e.symm
 have bE:(0:Int)≤(en:Int):=by omega
 have aU:Hid (n7=n6):=am;clear hfz8 gs8 hxx8 am;go_wp2_with fail
 clear I HKC bl D0 D1 D2 D3 D4 D5 D6 F0 F1 F2 F3 F4 F5 F6 ap aG aq aH aJ aK aL aN aO aP aQ HB0 HB1 HB2 HB4 HB5 HB6 HB7 aD ad ah HL3 ai aj aE hi hz0 hz1 hz2 aR
 go_region_held3 (fun w'=>w'.cell? (Z G 1)=some (sq g8 0 n7 cap8)) (first | exact qC _ (qC _ ((World.cell?_setCell_far _ _ _ _ ag).trans M)) | go_keep)
  (first
   | (go_at_call 107;refine(kG C lo G B7 (sq O 0 V caply) ly _ D8.out (by exact aZ.out) (by have:=Hkny.out;omega) (by have:=Hkny.out;omega)).mono ?_;rintro e w9 ⟨a9,rfl,dd,hf0⟩;have hf:Fr C w8 w9:=Fr.mk hf0.os hf0.tape hf0.output hf0.size hf0.block;have D9:Hid (DSt w9 C lo G B7):=dd;have aa:Hid (Fr C w7 w9):=aC.out.trans hf;have aX:Hid (ja w9 lo (sq kg 0 kn kcap) l):=jq aW.out (ju.fr hf D7.out.hC);have M:=(aa.out.cell (x:=(Z G 1)) ak (by show G≠C;omega)).trans c18;have ay:=(aa.out.cell (x:=(Z g8 (en*6))) hgl8 (by show g8≠C;omega)).trans q08;have az:=(aa.out.frozen (x:=(Z g8 (en*6))) hgl8 (by show g8≠C;omega)).trans aS;have af:g8<w9.heap.size:=Nat.lt_of_lt_of_le hgl8 aa.out.size;have ax:G<w9.heap.size:=Nat.lt_of_lt_of_le ak aa.out.size;clear dd hf0 hf)
   | (go_at_call 107;refine(kG C lo G B7 (sq kg 0 kn kcap) l _ D7.out.drew (by exact aM.out) (by have:=L.out;omega) (by have:=L.out;omega)).mono ?_;rintro e w8 ⟨a8,rfl,dd,hf0⟩;have hf:Fr C w7 w8:=Fr.mk hf0.os hf0.tape hf0.output hf0.size hf0.block;have D8:Hid (DSt w8 C lo G B7):=dd;have aC:Hid (Fr C w7 w8):=hf;have aW:Hid (ja w8 lo (sq kg 0 kn kcap) l):=jq aM.out (ju.fr hf D7.out.hC);have aZ:Hid (ja w8 lo (sq O 0 V caply) ly):=jq aY.out (ju.fr hf D7.out.hC);have ar:=(aC.out.cell (x:=(Z G 1)) ak (by show G≠C;omega)).trans c18;clear dd hf0 hf))
 obtain⟨g9,cap9,vals9,xx9,hxx9,gs9,c1x,_⟩:=D9.out.open (i:=en) (by have:=ae.out;omega);have bk:g9=g8:=by
  have h:=Option.some.inj (M.symm.trans c1x)
  injection h with h1
  injection h1 with h1
  injection h1 with h1
  exact h1.symm
 subst bk;obtain⟨r,hw10⟩:∃W,(((w9.setCell (Z g9 (en*6)) (sq (w9.heap.size+1) 0 1 1)).alloc (.cells #[vi (bn:Int),vi a8,vi (y:Int),vi a9] 143)).alloc (.cells #[vi ab,sq w9.heap.size 0 2 2] 107))=W:=⟨_,rfl⟩;rw[hw10]
 rename_i hHeld
 clear hHeld
 obtain⟨an,hl10,dd,ff⟩:=onePhi (a0:=(bn:Int)) (a1:=a8) (a2:=(y:Int)) (a3:=a9) (d:=ab) D9.out gs9 hxx9 (W:=r) (by
  rw[←hw10,World.setCell_alloc_past _ _ _ _ (by rw[World.size_alloc];omega),World.setCell_alloc_past _ _ _ _ af])
 have ac:Hid (DSt r C lo G an):=dd;have ao:Hid (an.length=n7):=hl10.trans ae.out;have aT:Hid (FrD C lo G w r):=F7.out.trans ((FrD.fr aa.out D7.out.hC D7.out.cur.lt).trans ff);have aF:Hid (ja r lo (sq kg 0 kn kcap) l):=D9.out.known ff aX.out;have bB:=ac.out.c0;obtain⟨i0,hi,hz0,hz1,hz2⟩:=info_parts y7;have aR:100000≤maxLen:=by decide
 clear hl10 dd ff hw10 gs9 hxx9 c1x ar M ay az af ax c18 q08 aS bg hgl8 ak;have KC:=aF.out.zx HKN.out;have bm:kg<r.heap.size:=aF.out.ltg;have U:lo≤r.heap.size:=by have h1:=ac.out.hG;have h2:=ac.out.xx;omega
 go_wp2_with (first | (at_builtin;refine wpList_append_own _ rfl _ _ 30 rfl r.heap.size 3 i0 (vi 0) 1 8 Tryz.underlying30 hi hz0 hz1 hz2 rfl (by decide) _ 0 [] rfl (show World.ownsRow _ _ _ _ _ _ _ from ke rfl (Nat.le_refl _)) (Z kg 0) kn kcap (l.map (fun x=>vi x)) rfl (by have:=HKN.out;simp;omega) (xM KC bm HKN.out) (by intro u hu;obtain⟨z,_,rfl⟩:=List.mem_map.1 hu;rfl) (by omega) (by omega) (by simp) ?_;intro va wa J B _;have OA:Hid (ja wa r.heap.size va l):=xN J HKN.out;have GA:Hid ((r.alloc (.cells #[] 3)).grownBy wa (some r.heap.size)):=B;clear J B) | (at_builtin;refine wpList_append_own _ rfl _ _ 30 rfl r.heap.size 3 i0 (vi 0) 1 8 Tryz.underlying30 hi hz0 hz1 hz2 rfl (by decide) va kn (l.map (fun x=>vi x)) rfl (World.ownsRow.alloc (by have h:=OA.out;unfold ja at h;rw[HKN.out] at h;exact h) _) (Z wa.heap.size 0) 1 1 [vi ab] rfl rfl (cell_one_new _ _ _) (by simp[Value.oneCell']) (by omega) (by omega) (by have h:=GA.out.size;simp at h ⊢;omega) ?_;intro vb wb K H _;have OB:Hid (ja wb r.heap.size vb (l ++ [ab])):=zc K HKN.out;have GB:Hid ((wa.alloc (.cells #[vi ab] 3)).grownBy wb va.ownBlock):=H;clear K H))
 go_ret2
 have bel:=qR GA.out GB.out OA.out;have hlen:=ao.out;have am:=aU.out;have bG:=HNB.out;refine⟨en,_,l ++ [ab],an,rfl,by omega,by omega,by omega,ac.out.later bel,OB.out.low U,by simp,by simp,?_⟩;rw[←HW.out];exact aT.out.trans (FrD.later bel ac.out.cur.lt)
theorem jE.aeJ {w wa:World}{C lo G:Nat}{bv:Value}{bs:List Bk}{vals:Int}(h:jE w C lo G bv bs vals){i:Nat}{b:Bk}(hb:bs[i]?=some b)(hg:w.grownBy wa b.pv.ownBlock) :
  Zo i wa C lo G bv bs vals∧ym wa lo b.lv b.ln:=by
 obtain⟨xs,hx,_⟩:=h.phi i b hb;have t:=fun(m:Nat) (y:Bk) (hy:bs[m]?=some y)=>(h.ins m y hy).other hg (qQ.of hx (by decide))
 refine⟨⟨(hg.block G (aI h.box).1 (fun e=>?_)).trans h.box,j8 h.row hg (qQ.of hx (by decide)),fun m y _ hy=>t m y hy,fun m y hm hy=>?_,(h.but i).apL,(h.but i).apP⟩,t i b hb⟩
 ·obtain⟨c,hc⟩:=jo hx G e.symm;rw[h.box] at hc;cases hc
 ·exact(h.phi m y hy).apart hg (fun r hr=>h.apP i m b y (fun e=>hm e.symm) hb hy r hr) (qQ.of hx (by decide))
theorem jE.putPhi {w wa:World}{C lo G g cap:Nat}{bs:List Bk}{vals d:Int}(h:jE w C lo G (sq g 0 bs.length cap) bs vals){i al:Nat}{b:Bk}{v' av:Value}{xs:List Value}(hb:bs[i]?=some b)
  (hx:w.ownsRow lo 107 2 b.pv b.pn xs) (hxi:∀j,j<b.pn→∃d av al,xs[j*2]?=some (vi d)∧xs[j*2+1]?=some av∧xG w lo av al) (ha:xG w lo av al) (hlt:b.pn<4) (hg:w.grownBy wa b.pv.ownBlock)
  (ho:wa.ownsRow lo 107 2 v' (b.pn+1) (xs ++ [vi d,av])) (hat:v'.ownBlock=b.pv.ownBlock∨v'.ownBlock=some w.heap.size) :
  jE (wa.setCell (Z g (i*6)) v') C lo G (sq g 0 bs.length cap) (bs.set i { b with pv:=v',pn:=b.pn+1 }) vals:=by
 obtain⟨r,hin⟩:=h.aeJ hb hg;have t:qQ w b.pv.ownBlock 143:=qQ.of hx (by decide);have B:xs.length=b.pn*2:=hx.1;refine r.setCell (j:=0) (b' := { b with pv:=v',pn:=b.pn+1 }) hb (by omega) rfl hin ⟨_,ho,fun j hj=>?_,by show b.pn+1≤4;omega⟩ (fun m y hm hy=>?_) (fun m y hm hy=>?_)
 ·have H:j<b.pn+1:=hj;by_cases e:j<b.pn
  ·obtain⟨d',av',al',e1,e2,e3⟩:=hxi j e;exact⟨d',av',al',(by rw[List.getElem?_append_left (by omega)];exact e1),(by rw[List.getElem?_append_left (by omega)];exact e2),e3.other hg t⟩
  ·have e2:j=b.pn:=by omega
   subst e2;exact⟨d,av,al,(by rw[List.getElem?_append_right (by omega)];simp[B]),(by rw[List.getElem?_append_right (by omega)];simp[B]),ha.other hg t⟩
 ·exact⟨h.apL i m b y (fun e=>hm e.symm) hb hy,h.apL m i y b hm hy hb⟩
 ·obtain⟨ys,hys,_⟩:=h.phi m y hy;rcases hat with e | e
  ·refine⟨fun k hk=>?_,fun k hk e2=>?_⟩
   ·exact h.apP i m b y (fun e=>hm e.symm) hb hy k (by rw[←e];exact hk)
   ·exact h.apP m i y b hm hy hb k hk (by rw[←e];exact e2)
  ·refine⟨fun k hk e2=>?_,fun k hk e2=>?_⟩
   ·have h1:=k9 hys k e2;have h2:v'.ownBlock=some k:=hk;rw[e] at h2;simp at h2;omega
   ·have h1:=k9 hys k hk;have h2:v'.ownBlock=some k:=e2;rw[e] at h2;simp at h2;omega
theorem adP {w wa:World}{C lo G g cap n:Nat}{bs:List Bk}{vals a0 a1 a2 a3 d:Int}{i pn:Nat}{b:Bk}{v':Value}{xs:List Value}{la:Option Addr}{lcap:Nat}(H:DSt w C lo G bs)(h:jE w C lo G (sq g 0 bs.length cap) bs vals)(hb:bs[i]?=some b)(hpv:b.pv=.slice la b.pn lcap)(hpn:b.pn=pn)
  (hx:w.ownsRow lo 107 2 b.pv b.pn xs) (hxi:∀j,j<b.pn→∃d av al,xs[j*2]?=some (vi d)∧xs[j*2+1]?=some av∧xG w lo av al) (hlt:pn<4) (hgl:g<w.heap.size)
  (hg:((w.alloc (.cells #[vi a0,vi a1,vi a2,vi a3] 143)).alloc (.cells #[vi d,sq w.heap.size 0 2 2] 107)).grownBy wa (Value.slice la pn lcap).ownBlock)
  (ho:wa.ownsRow lo 107 2 v' (pn+1) (xs ++ [vi d,sq w.heap.size 0 2 2])) (hat:v'.ownBlock=(Value.slice la pn lcap).ownBlock∨v'.ownBlock=some (w.heap.size+1+1))
  (q1:w.cell? (Z g (i*6))=some (.slice la pn lcap)) (c1:w.cell? (Z G 1)=some (sq g 0 n cap)) (f3:w.frozen? (Z g (i*6))=false) :
  DSt (wa.setCell (Z g (i*6)) v') C lo G (bs.set i { b with pv:=v',pn:=pn+1 })∧FrD C lo G w (wa.setCell (Z g (i*6)) v')∧wa.cell? (Z g (i*6))=some (.slice la pn lcap)∧wa.frozen? (Z g (i*6))=false∧wa.cell? (Z G 1)=some (sq g 0 n cap):=by
 subst hpn;have L:C<w.heap.size:=H.cur.lt;have M:G<w.heap.size:=H.xx;have I:lo≤w.heap.size:=by have:=H.hG;omega
 have b2:Below w.heap.size w ((w.alloc (.cells #[vi a0,vi a1,vi a2,vi a3] 143)).alloc (.cells #[vi d,sq w.heap.size 0 2 2] 107)):=by repeat (first | exact Below.refl _ _ | apply Below.drew | refine Below.alloc ?_ (by simp <;> omega) _ | refine Below.setCell ?_ (by simp <;> omega) _)
 have e1:((w.alloc (.cells #[vi a0,vi a1,vi a2,vi a3] 143)).alloc (.cells #[vi d,sq w.heap.size 0 2 2] 107)).heap[w.heap.size]?=some (.cells #[vi a0,vi a1,vi a2,vi a3] 143 (0,0)):=by
  rw[Below.heap_alloc _ _ _ (by simp)];exact World.alloc_heap_new w _
 obtain⟨w2,hw2⟩:∃W,((w.alloc (.cells #[vi a0,vi a1,vi a2,vi a3] 143)).alloc (.cells #[vi d,sq w.heap.size 0 2 2] 107))=W:=⟨_,rfl⟩;have O:w2.heap.size=w.heap.size+1+1:=by rw[←hw2];simp
 have t:w2.ownsRow lo 107 2 b.pv b.pn xs:=by rw[←hw2];exact World.ownsRow.alloc (World.ownsRow.alloc hx _) _
 rw[hw2] at hg b2 e1;have GA:=h.lo H.hG (ju.later b2);rw[←hpv] at hg hat
 have GN:=GA.putPhi (d:=d) (av:=sq w.heap.size 0 2 2) (al:=2) hb t (fun j hj=>by
  obtain⟨d',av',al',k1,k2,k3⟩:=hxi j hj
  exact⟨d',av',al',k1,k2,k3.lo (ju.later b2)⟩) ⟨kL.two e1 I,by omega⟩ hlt hg ho (by rw[O];exact hat)
 have J:wa.heap[g]?=w.heap[g]?:=(hg.block g (by omega) (fun e=>by
  obtain⟨c,hc⟩:=jo t g e.symm;obtain⟨c2,hc2⟩:=jo GA.row g rfl;rw[hc] at hc2
  cases hc2)).trans (b2.block g hgl)
 have K:wa.heap[G]?=w.heap[G]?:=(hg.block G (by omega) (fun e=>by
  obtain⟨c,hc⟩:=jo t G e.symm;rw[GA.box] at hc
  cases hc)).trans (b2.block G M)
 have B:lo≤g:=(World.ownsRow.lt h.row g rfl).1;have U:w.heap.size+2≤wa.heap.size:=by have:=hg.size;omega
 refine⟨⟨H.hC,H.hG,?_,_,_,GN⟩,?_,(World.cell?_of_block (w:=w) (w':=wa) (a:=(Z g (i*6))) J).trans q1,(World.frozen?_of_block (w:=w) (w':=wa) (a:=(Z g (i*6))) J).trans f3,(World.cell?_of_block (w:=w) (w':=wa) (a:=(Z G 1)) K).trans c1⟩
 ·refine H.cur.below H.hC ?_;have b3:Below lo w wa:=(b2.mono I).grown hg (by omega) (fun r hr=>(World.ownsRow.lt t r hr).1);exact b3.setCell (p:=(Z g (i*6))) B _
 ·refine((FrD.later b2 L).trans (FrD.Kf hg H.hC (by omega) (fun r hr=>?_))).trans (FrD.Kf (qX _ g _ _) H.hC (by omega) (fun r hr=>?_))
  ·obtain⟨c,hc⟩:=jo t r hr;exact⟨(World.ownsRow.lt t r hr).1,.inr ⟨_,_,_,hc,.inr (.inr rfl)⟩⟩
  ·cases hr
   obtain⟨c2,hc2⟩:=jo h.row g rfl;exact⟨B,.inr ⟨_,_,_,J.trans hc2,.inl rfl⟩⟩
end Go.Proofs.YtkbhbekfniadhaaGreat
