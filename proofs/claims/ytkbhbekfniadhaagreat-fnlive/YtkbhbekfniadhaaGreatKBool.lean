/- Lists of bools in memory: compared, marked, held against the marks; lists that a call has made. Rows of flags: which values are in a list; put, taken out, copied. What is needed ahead of a place, by what is needed behind it: the model's l11Back. -/
import Derived.Test.YtkbhbekfniadhaaGreatTk0
import Derived.Test.YtkbhbekfniadhaaGreatKTo
import Derived.Test.YtkbhbekfniadhaaGreatKLDef
import Derived.Test.YtkbhbekfniadhaaGreatKPre
import Derived.ArgAppend
import Derived.Lib.AppendZeros
import Derived.Test.YtkbhbekfniadhaaGreatKIns
import Derived.Deep.RegionHeld
set_option maxRecDepth 100000
set_option maxHeartbeats 4000000
namespace Go.Proofs.YtkbhbekfniadhaaGreat
open Go.ChangeShapes Go.WideShapes Go.ChangeAt Go.RowKit
set_option linter.unusedVariables false
def xU (w:World)(v:Value)(l:List Bool):Prop :=
 ∃(a:Option Addr) (cap:Nat),v=.slice a l.length cap∧l.length≤9223372036854775807∧(0<l.length→∃b off,a=some (Z b off)∧∀i,i<l.length→w.cell? (Z b (off+i))=some (.bool (l.getD i false)))
theorem xU.keep {w w':World}{v:Value}{l:List Bool}(h:xU w v l)(hb:Below w.heap.size w w'):xU w' v l:=by
 obtain⟨a,cap,rfl,hm,hc⟩:=h;refine⟨a,cap,rfl,hm,fun hp=>?_⟩;obtain⟨b,off,rfl,hd⟩:=hc hp;exact⟨b,off,rfl,fun i hi=>Bel.keeps hb (hd i hi)⟩
def ji (w:World)(lo:Nat)(v:Value)(l:List Bool):Prop:=w.ownsRow lo 4 1 v l.length (l.map (fun x=>Value.bool x))
theorem ji.small {w:World}{lo:Nat}{v:Value}{l:List Bool}(h:ji w lo v l):l.length≤maxLen:=by
 rcases h.2 with ⟨_,h0⟩ | ⟨g,cap,cur,_,_,_,h1,h2,_⟩
 ·rw[h0];exact Nat.zero_le _
 ·omega
theorem ji.row {w:World}{lo:Nat}{v:Value}{l:List Bool}(h:ji w lo v l) :
  ∃a cap,v=.slice a l.length cap∧(0<l.length→∃g,a=some (Z g 0)∧lo≤g∧g<w.heap.size∧(∀i,i<l.length→w.cell? (Z g i)=some (.bool (l.getD i false)))∧∀i,w.frozen? (Z g i)=false):=by
 rcases h.2 with ⟨rfl,h0⟩ | ⟨g,cap,cur,rfl,hlo,hg,h1,h2,h3,h4⟩
 ·exact⟨none,0,by rw[h0],fun hp=>absurd hp (by omega)⟩
 ·refine⟨_,cap,rfl,fun hp=>⟨g,rfl,hlo,(aI hg).1,fun i hi=>?_,fun i=>?_⟩⟩
  ·have hs:i<cur.size:=by omega
   have e:cur[i]?=some (.bool (l.getD i false)):=by
    have e1:(cur.toList.take (l.length*1))[i]?=cur[i]?:=by rw[List.getElem?_take];simp[hi]
    rw[←e1,h4,List.getElem?_map];simp[List.getD,hi]
   simp[World.cell?,hg,e]
  ·simp[World.frozen?,hg]
theorem ji.at {w:World}{lo:Nat}{v:Value}{l:List Bool}(h:ji w lo v l):xU w v l:=by
 have hs:=h.small;obtain⟨a,cap,rfl,hc⟩:=h.row
 refine ⟨a, cap, rfl, by have : maxLen ≤ 9223372036854775807 := by decide
                         omega,fun hp=>?_⟩
 obtain⟨g,rfl,_,_,hd,_⟩:=hc hp;exact⟨g,0,rfl,fun i hi=>by simpa using hd i hi⟩
theorem KP {w w':World}{lo:Nat}{e:TypeId}{s:Nat}{v:Value}{k:Nat}{xs:List Value}(h:w.ownsRow lo e s v k xs)(hb:Below w.heap.size w w'):w'.ownsRow lo e s v k xs:=by
 obtain⟨h0,h1⟩:=h;refine⟨h0,?_⟩;rcases h1 with h1 | ⟨g,cap,cur,rfl,hlo,hg,h2⟩
 ·exact .inl h1
 ·exact .inr ⟨g,cap,cur,rfl,hlo,(hb.block g (aI hg).1).trans hg,h2⟩
theorem ji.keep {w w':World}{lo:Nat}{v:Value}{l:List Bool}(h:ji w lo v l)(hb:Below w.heap.size w w'):ji w' lo v l:=KP h hb
theorem acw {w:World}{lo lo':Nat}{e:TypeId}{s:Nat}{v:Value}{k:Nat}{xs:List Value}(h:w.ownsRow lo e s v k xs)(hl:lo'≤lo):w.ownsRow lo' e s v k xs:=by
 obtain⟨h0,h1⟩:=h;refine⟨h0,?_⟩;rcases h1 with h1 | ⟨g,cap,cur,rfl,hlo,h2⟩
 ·exact .inl h1
 ·exact .inr ⟨g,cap,cur,rfl,Nat.le_trans hl hlo,h2⟩
theorem ji.low {w:World}{lo lo':Nat}{v:Value}{l:List Bool}(h:ji w lo v l)(hl:lo'≤lo):ji w lo' v l:=acw h hl
theorem acy (w:World):ji (w.alloc (.cells #[] 4)) w.heap.size (sq w.heap.size 0 0 0) [] :=
 ⟨rfl,.inr ⟨w.heap.size,0,#[],rfl,Nat.le_refl _,World.alloc_heap_new w _,Nat.le_refl _,Nat.zero_le _,rfl,rfl⟩⟩
def bitsOf (V:Nat)(l:List Int):List Bool:=(List.range V).map (fun(j:Nat)=>decide ((j:Int)∈l))
theorem xV (V:Nat)(l:List Int):(bitsOf V l).length=V:=by simp[bitsOf]
theorem ago {V:Nat}(l:List Int){j:Nat}(h:j<V):(bitsOf V l)[j]?=some (decide ((j:Int)∈l)):=by simp[bitsOf,h]
theorem Qx {V:Nat}(l:List Int){j:Nat}(h:j<V):(bitsOf V l).getD j false=decide ((j:Int)∈l):=by simp[bitsOf,h]
theorem y9 {V:Nat}{l m:List Int}(h:∀j:Nat,j<V→((j:Int)∈l↔(j:Int)∈m)):bitsOf V l=bitsOf V m:=by
 unfold bitsOf
 apply List.map_congr_left
 intro j hj;simp[h j (List.mem_range.1 hj)]
theorem abD {V:Nat}{l m:List Int}{d:Nat}{x:Bool}(hd:d<V)(h:∀j:Nat,j<V→((j:Int)∈m↔if j=d then x=true else(j:Int)∈l)):(bitsOf V l).set d x=bitsOf V m:=by
 apply List.ext_getElem?
 intro j;rw[List.getElem?_set];by_cases hj:j<V
 ·rw[ago m hj];by_cases e:d=j
  ·subst e;have:=h d hj;rw[if_pos rfl] at this;rw[if_pos rfl,if_pos (by rw[xV];exact hj)];cases x <;> simp[this]
  ·have:=h j hj;rw[if_neg (fun e2=>e e2.symm)] at this;rw[if_neg e,ago l hj];simp[this]
 ·have h1:(bitsOf V m)[j]?=none:=List.getElem?_eq_none (by rw[xV];omega);have h2:(bitsOf V l)[j]?=none:=List.getElem?_eq_none (by rw[xV];omega);rw[h1,if_neg (by omega),h2]
theorem afe : (Tryz.prog.info? 4).map (fun i=>(i.zero,i.size,i.bytes))=some (some (.bool false),1,1):=by kernel_rfl
theorem ji.cells {w:World}{lo g n cap:Nat}{l:List Bool}(h:ji w lo (sq g 0 n cap) l):l.length=n∧lo≤g∧(∃cur,w.heap[g]?=some (.cells cur 4 (0,0)))∧n≤9223372036854775807∧(∀j,j<n→w.cell? (Z g j)=some (.bool (l.getD j false)))∧∀j,w.frozen? (Z g j)=false:=by
 rcases h with ⟨_,⟨h0,_⟩ | ⟨g',cap',cur,hv,hlo,hg,h1,h2,h3,h4⟩⟩
 ·cases h0
 ·simp at hv;obtain⟨rfl,rfl,rfl⟩:=hv;refine⟨rfl,hlo,⟨cur,hg⟩,by unfold maxLen at h2;omega,fun j hj=>?_,fun j=>by simp[World.frozen?,hg]⟩;have e:=congrArg (fun m=>m[j]?) h4;rw[Nat.mul_one,List.getElem?_take,if_pos hj,List.getElem?_map] at e;have r:j<cur.size:=by omega
  simp[r,hj] at e;simp[World.cell?,hg,r,e,hj]
theorem ji.setAt {w:World}{lo g n cap:Nat}{l:List Bool}(h:ji w lo (sq g 0 n cap) l){d:Nat}(hd:d<n)(x:Bool):ji (w.setCell (Z g d) (.bool x)) lo (sq g 0 n cap) (l.set d x):=by
 rcases h with ⟨_,⟨h0,_⟩ | ⟨g',cap',cur,hv,hlo,hg,h1,h2,h3,h4⟩⟩
 ·cases h0
 ·simp at hv;obtain⟨rfl,rfl,rfl⟩:=hv;obtain⟨hl,hk⟩:=aI hg;have hb:(w.setCell (Z g d) (.bool x)).heap[g]?=some (.cells (cur.setIfInBounds d (.bool x)) 4 (0,0)):=by
   show(w.heap.modify g _)[g]?=_;rw[Array.getElem?_eq_getElem (by rw[Array.size_modify];exact hl),Array.getElem_modify_self,hk]
   rfl
  refine⟨by simp,.inr ⟨g,cap,_,by simp,hlo,hb,by simpa using h1,h2,by simpa using h3,?_⟩⟩;rw[List.length_set,Array.toList_setIfInBounds,List.map_set,←h4,Nat.mul_one,List.take_set]
theorem agp (g lo:Nat)(v:Value)(l:List Bool)(w:World)(h:xU w v l)(hn:l.length≤1048576)(hg:ji w lo (sq g 0 0 0) [])(hlo:lo≤w.heap.size)(ty:TypeId) :
  ∃v' w',(Builtin.append_ #[56,56] ty #[sq g 0 0 0,v]).run Tryz.prog w=.ok v' w'∧(∃g' cap',v'=sq g' 0 l.length cap')∧ji w' lo v' l∧Below w.heap.size w w':=by
 obtain⟨a,cap,rfl,hm,hc⟩:=h;obtain⟨i0,hi,hz0,hz1,hz2⟩:=info_parts afe;by_cases h0:l.length=0
 ·refine⟨sq g 0 0 0,w,?_,⟨_,_,by rw[h0]⟩,?_,Below.refl _ _⟩
  ·rw[h0];cases a with
   | none=>simp[Builtin.append_,run_underlying Tryz.underlying56,sizeOf,typeInfo,hi,Builtin.lenOf,Builtin.firstCells,go_sem]
   | some ad=>simp[Builtin.append_,run_underlying Tryz.underlying56,sizeOf,typeInfo,hi,Builtin.lenOf,Builtin.firstCells,go_sem]
  ·rw[List.length_eq_zero_iff.1 h0];exact hg
 ·have r:2000000≤maxLen:=by decide
  obtain⟨b,off,rfl,hE⟩:=hc (by omega)
  obtain⟨v',w',hrun,hown,hgr⟩:=run_append_arg_grows (P:=Tryz.prog) w 56 ty 4 i0 (.bool false) 1 1 Tryz.underlying56 hi hz0 hz1 hz2 rfl (by decide) (Z g 0) 0 0 [] rfl (fun j u h=>by simp at h) (Z b off) l.length cap (l.map (fun x=>Value.bool x)) (by simp) (fun j u hu=>by
   have hj:j<l.length:=by
    rcases Nat.lt_or_ge j l.length with h | h
    ·exact h
    ·rw[List.getElem?_eq_none (by simpa using h)] at hu;cases hu
   rw[Addr.add_lit,hE j hj,←hu]
   simp[hj]) (by omega) (by omega) (by omega)
  rw[Nat.zero_add,List.nil_append] at hown;have hb:Below w.heap.size w w':=(Below.refl w.heap.size w).grown hgr (Nat.le_refl _) (fun j ej=>by cases ej);have hO:ji w' lo v' l:=ji.low (show ji w' w.heap.size v' l from hown) hlo;refine⟨v',w',hrun,?_,hO,hb⟩;rcases hO.2 with ⟨rfl,h2⟩ | ⟨g2,c2,_,rfl,_⟩
  ·exact absurd h2 h0
  ·exact⟨_,_,rfl⟩
theorem Qy (n lo:Nat)(hn:n≤1048576)(w:World)(hlo:lo≤w.heap.size):ji (w.alloc (.cells (madeCells #[.bool false] n) 4)) lo (sq w.heap.size 0 n n) (bitsOf n []):=by
 have h:2000000≤maxLen:=by decide
 refine⟨by simp,.inr ⟨w.heap.size,n,_,by rw[xV],hlo,World.alloc_heap_new w _,by rw[xV];exact Nat.le_refl _,by omega,?_,?_⟩⟩
 ·rw[←Array.length_toList,toList_madeCells_one];simp
 ·rw[toList_madeCells_one,xV,Nat.mul_one]
  apply List.ext_getElem?
  intro j;by_cases hj:j<n
  ·simp[bitsOf,hj]
  ·simp[bitsOf,hj]
def zV (w:World)(V:Nat)(m:List Int)(e:Ending)(w':World):Prop := ∃g cap,e=.returned (sq g 0 V cap)∧ji w' w.heap.size (sq g 0 V cap) (bitsOf V m)∧Below w.heap.size w w'
def Qz (w0:World)(lo V g cap:Nat)(l us:List Int)(k:Nat)(wr:World):Prop:=ji wr lo (sq g 0 V cap) (bitsOf V (l ++ us.take k))∧Below lo w0 wr∧w0.heap.size≤wr.heap.size∧∀j,j<w0.heap.size→j≠g→wr.heap[j]?=w0.heap[j]?
theorem Qz.put {w0:World}{lo V g cap:Nat}{l us:List Int}{k:Nat}{wr:World}(h:Qz w0 lo V g cap l us k wr)(hlo:lo≤g){z:Nat}(hz:z<V)(hk:k<us.length)(hu:us.getD k 0=(z:Int)):Qz w0 lo V g cap l us (k+1) (wr.setCell (Z g z) (.bool true)):=by
 obtain⟨h1,h2,h3,h4⟩:=h;have hs:(wr.setCell (Z g z) (.bool true)).heap.size=wr.heap.size:=by show(wr.heap.modify _ _).size=_;simp
 refine⟨?_,h2.setCell (p:=(Z g z)) hlo _,by rw[hs];exact h3,fun j hj r=>(Below.heap_setCell _ _ _ j (by intro e;exact r e)).trans (h4 j hj r)⟩;have:=h1.setAt hz true;rw[abD (m:=l ++ us.take (k+1)) hz (fun j hj=>?_)] at this
 ·exact this
 ·have ht:us.take (k+1)=us.take k ++ [(z:Int)]:=by
   rw[List.take_add_one,List.getElem?_eq_getElem hk];have:us[k]=(z:Int):=by rw[←hu,List.getD_eq_getElem?_getD,List.getElem?_eq_getElem hk];rfl
   rw[this];rfl
  rw[ht];by_cases e:j=z
  ·subst e;simp
  ·have e2:¬(j:Int)=(z:Int):=fun h=>e (by omega)
   simp[e,e2]
theorem agq {V z:Nat}(hz:z<V)(l:List Int):(bitsOf V l).set z false=bitsOf V (l.filter (fun x=>decide (x≠(z:Int)))):=by
 refine abD hz (fun j hj=>?_);by_cases e:j=z
 ·subst e;simp
 ·have e2:¬(j:Int)=(z:Int):=fun h=>e (by omega)
  simp[e,e2]
theorem adE (op d a b nn:Int)(la:Option Addr)(V lcap:Nat)(l:List Int)(w:World)(hl:xU w (.slice la V lcap) (bitsOf V l))(hV:V≤80)(hd:jX op d = -1∨(0≤jX op d∧jX op d<V))(hu:∀x∈kK op a b,0≤x∧x<V) :
  Calls Tryz.prog 78 #[.agg #[vi op,vi d,vi a,vi b,vi nn],.slice la V lcap] w fun e w'=>zV w V (Q8 ⟨op,d,a,b,nn⟩ l) e w':=by
 have HL:Hid (xU w (.slice la V lcap) (bitsOf V l)):=hl;have HU:Hid (∀x∈kK op a b,0≤x∧x<V):=hu;obtain⟨dv,HDV⟩:∃z,Hid (jX op d=z):=⟨_,rfl⟩;rw[HDV.out] at hd;clear hl hu;obtain⟨wA,hwA⟩:∃wA,w.alloc (.cells #[vi op,vi d,vi a,vi b,vi nn] 47)=wA:=⟨_,rfl⟩;have BA:Hid (Below w.heap.size w wA):=by rw[←hwA];exact Bel.alloc _ _
 have L:wA.heap.size=w.heap.size+1:=by rw[←hwA];simp
 have IA:Hid (abj wA w.heap.size op d a b nn):=by rw[←hwA];exact afD _ _ _ _ _ _ _
 obtain⟨wB,hwB⟩:∃wB,wA.alloc (.cells #[] 4)=wB:=⟨_,rfl⟩;have BB:Hid (Below wA.heap.size wA wB):=by rw[←hwB];exact Bel.alloc _ _
 have OB:ji wB (w.heap.size+1) (sq wA.heap.size 0 0 0) []:=by rw[←hwB];exact ji.low (acy wA) (by omega)
 have ab:wB.heap.size=w.heap.size+2:=by rw[←hwB];simp;omega
 have L3:xU wB (.slice la V lcap) (bitsOf V l):=(HL.out.keep BA.out).keep BB.out;obtain⟨v',wC,hrun,⟨g,cap,hv'⟩,hO,BC⟩:=agp wA.heap.size (w.heap.size+1) (.slice la V lcap) (bitsOf V l) wB L3 (by rw[xV];omega) OB (by omega) 56;rw[xV] at hv';subst hv';have OC:Hid (ji wC (w.heap.size+1) (sq g 0 V cap) (bitsOf V l)):=hO;have H:Hid (Below w.heap.size w wC):=Bel.after BA.out (Bel.after BB.out BC);have IC:Hid (abj wC w.heap.size op d a b nn):=(IA.out.keep BB.out).keep BC;have ac:w.heap.size+2≤wC.heap.size:=by have:=BC.size;omega
 rw[L] at hrun;obtain⟨i0,i1,i2,i3,i4⟩:=IC.out;obtain⟨_,hlog,⟨cur,hcur⟩,_,_,_⟩:=hO.cells;have I:g<wC.heap.size:=(aI hcur).1;clear OB L3 BC hO hcur;go_enter Tryz.func78,Tryz.ntmps78
 rcases hd with hd | ⟨X,hd1⟩
 ·have B:∀j:Nat,j<V→((j:Int)∈l ++ kK op a b↔(j:Int)∈Q8 ⟨op,d,a,b,nn⟩ l):=fun j hj=>by
   rw[Q8,qM,List.mem_append,List.mem_append,List.mem_filter];dsimp only;rw[HDV.out,hd];constructor
   ·rintro(h | h)
    ·exact⟨.inl ⟨h,by simp⟩,by omega,by omega⟩
    ·exact⟨.inr h,by omega,by omega⟩
   ·rintro⟨h | h,_⟩
    ·exact .inl h.1
    ·exact .inr h
  have t:w.heap.size+1≤g∧g<wC.heap.size:=⟨hlog,I⟩;have aa:dv<0:=by omega
  have EQ:Hid (∀j:Nat,j<V→((j:Int)∈l ++ kK op a b↔(j:Int)∈Q8 ⟨op,d,a,b,nn⟩ l)):=B;obtain⟨us,HUS⟩:∃z,Hid (kK op a b=z):=⟨_,rfl⟩;obtain⟨un,HUN⟩:∃z,Hid (us.length=z):=⟨_,rfl⟩;go_wp2_with (first | (at_builtin;refine Lib.wpList_append_run _ rfl _ _ _ _ rfl _ _ rfl rfl _ _ hrun ?_) | (go_at_call 82;refine(JB op d a b nn wC).mono ?_;rintro e wD ⟨rfl,bD⟩;rw[HDV.out];have OE:Hid (ji wD (w.heap.size+1) (sq g 0 V cap) (bitsOf V l)):=OC.out.keep bD;have BE:Hid (Below w.heap.size w wD):=Bel.after H.out bD;have j0:=Bel.keeps bD i0;have j1:=Bel.keeps bD i1;have j2:=Bel.keeps bD i2;have j3:=Bel.keeps bD i3;have j4:=Bel.keeps bD i4;have M:=bD.size;clear bD hd) | (go_at_call 98;refine(Ki op d a b nn wD).mono ?_;rintro e wF ⟨uv,kb,rfl,hkb,hR,bF⟩;rw[HUS.out] at hR;have RF:Hid (yI wF kb uv us):=hR;have OF:Hid (ji wF (w.heap.size+1) (sq g 0 V cap) (bitsOf V (l))):=OE.out.keep bF;have BF:Hid (Below w.heap.size w wF):=Bel.after BE.out bF;obtain⟨rfl,hmx,hkl,_,_⟩:=hR;rw[HUN.out] at hmx ⊢;clear bF))
  go_loopw [8] (fun i wr=>∃k:Nat,k≤un∧i=vi k∧Qz wF (w.heap.size+1) V g cap (l) us k wr) (fun i _=>un-(intOf i).toNat)
  case atStart=>exact⟨0,Nat.zero_le _,rfl,by rw[List.take_zero,List.append_nil];exact OF.out,Below.refl _ _,Nat.le_refl _,fun _ _ _=>rfl⟩
  case round=>
   obtain⟨wq,hwq⟩:∃x,x=wr:=⟨_,rfl⟩;subst hwq;obtain⟨k,hk,rfl,hup⟩:=hrel;have UP:Hid (Qz wF (w.heap.size+1) V g cap (l) us k wq):=hup;have J:=t;by_cases K:(k:Int)<(un:Int)
   ·have r:k<us.length:=by have:=HUN.out;omega
    obtain⟨z,HZ,hz⟩:∃z:Nat,Hid (us.getD k 0=(z:Int))∧z<V:=by
     have h9:=HU.out (us.getD k 0) (by rw[HUS.out,List.getD_eq_getElem?_getD,List.getElem?_eq_getElem r];exact List.getElem_mem r);have h8:us.getD k 0=((us.getD k 0).toNat:Int):=by omega
     exact⟨(us.getD k 0).toNat,h8,by omega⟩
    have c0:wq.cell? (Z kb k)=some (vi z):=by
     rw[World.cell?_of_block (w:=wF) (a:=(Z kb k)) (hup.2.2.2 kb (by omega) (by omega)),RF.out.2.2.2.1 k r,HZ.out]
    obtain⟨_,_,_,_,hcell,hfz⟩:=hup.1.cells;have c1:=hcell z hz;have c2:=hfz z;have U:(z:Int)<(V:Int):=by omega
    have G:Hid (k<us.length):=r;clear hup hcell hfz r;go_wp2_with fail
    go_roundw
    case rel=>exact⟨k+1,by omega,by simp,UP.out.put (by omega) hz G.out HZ.out⟩
    case measure=>simp[intOf];omega
   ·obtain rfl:k=un:=by omega
    clear hup;go_wp2_with fail
    go_ret;have h1:=UP.out.1;rw[List.take_of_length_le (by have:=HUN.out;omega),←HUS.out,y9 EQ.out] at h1;exact⟨g,cap,rfl,h1.low (by omega),BF.out.trans (UP.out.2.1.mono (by omega))⟩
 ·obtain⟨z,rfl⟩:∃z:Nat,dv=(z:Int):=⟨dv.toNat,by omega⟩;have hz:z<V:=by omega
  have B:∀j:Nat,j<V→((j:Int)∈l.filter (fun x=>decide (x≠(z:Int))) ++ kK op a b↔(j:Int)∈Q8 ⟨op,d,a,b,nn⟩ l):=fun j hj=>by
   rw[Q8,qM];dsimp only;rw[HDV.out];exact⟨fun h=>⟨h,by omega,by omega⟩,fun h=>h.1⟩
  have t:w.heap.size+1≤g∧g<wC.heap.size:=⟨hlog,I⟩;have EQ:Hid (∀j:Nat,j<V→((j:Int)∈l.filter (fun x=>decide (x≠(z:Int))) ++ kK op a b↔(j:Int)∈Q8 ⟨op,d,a,b,nn⟩ l)):=B;obtain⟨us,HUS⟩:∃z,Hid (kK op a b=z):=⟨_,rfl⟩;obtain⟨un,HUN⟩:∃z,Hid (us.length=z):=⟨_,rfl⟩;go_wp2_with (first | (at_builtin;refine Lib.wpList_append_run _ rfl _ _ _ _ rfl _ _ rfl rfl _ _ hrun ?_) | (go_at_call 82;refine(JB op d a b nn wC).mono ?_;rintro e wD ⟨rfl,bD⟩;rw[HDV.out];have OD:ji wD (w.heap.size+1) (sq g 0 V cap) (bitsOf V l):=OC.out.keep bD;have M:=bD.size;have OE:Hid (ji (wD.setCell (Z g z) (.bool false)) (w.heap.size+1) (sq g 0 V cap) (bitsOf V (l.filter (fun x=>decide (x≠(z:Int)))))):=(by have h9:=OD.setAt hz false;rw[agq hz] at h9;exact h9);have BE:Hid (Below w.heap.size w (wD.setCell (Z g z) (.bool false))):=(Bel.after H.out bD).setCell (p:=(Z g z)) (by show w.heap.size≤g;omega) _;have j0:=(World.cell?_setCell_far wD (Z g z) (Z w.heap.size 0) (.bool false) (by show g≠w.heap.size;omega)).trans (Bel.keeps bD i0);have j1:=(World.cell?_setCell_far wD (Z g z) (Z w.heap.size 1) (.bool false) (by show g≠w.heap.size;omega)).trans (Bel.keeps bD i1);have j2:=(World.cell?_setCell_far wD (Z g z) (Z w.heap.size 2) (.bool false) (by show g≠w.heap.size;omega)).trans (Bel.keeps bD i2);have j3:=(World.cell?_setCell_far wD (Z g z) (Z w.heap.size 3) (.bool false) (by show g≠w.heap.size;omega)).trans (Bel.keeps bD i3);have j4:=(World.cell?_setCell_far wD (Z g z) (Z w.heap.size 4) (.bool false) (by show g≠w.heap.size;omega)).trans (Bel.keeps bD i4);obtain⟨_,_,_,_,hcell,hfz⟩:=OD.cells;have c1:=hcell z hz;have c2:=hfz z;have O:(wD.setCell (Z g z) (.bool false)).heap.size=wD.heap.size:=(by show(wD.heap.modify _ _).size=_;simp);clear bD OD hcell hfz) | (go_at_call 98;refine(Ki op d a b nn (wD.setCell (Z g z) (.bool false))).mono ?_;rintro e wF ⟨uv,kb,rfl,hkb,hR,bF⟩;rw[HUS.out] at hR;have RF:Hid (yI wF kb uv us):=hR;have OF:Hid (ji wF (w.heap.size+1) (sq g 0 V cap) (bitsOf V (l.filter (fun x=>decide (x≠(z:Int)))))):=OE.out.keep bF;have BF:Hid (Below w.heap.size w wF):=Bel.after BE.out bF;obtain⟨rfl,hmx,hkl,_,_⟩:=hR;rw[HUN.out] at hmx ⊢;clear bF))
  go_loopw [8] (fun i wr=>∃k:Nat,k≤un∧i=vi k∧Qz wF (w.heap.size+1) V g cap (l.filter (fun x=>decide (x≠(z:Int)))) us k wr) (fun i _=>un-(intOf i).toNat)
  case atStart=>exact⟨0,Nat.zero_le _,rfl,by rw[List.take_zero,List.append_nil];exact OF.out,Below.refl _ _,Nat.le_refl _,fun _ _ _=>rfl⟩
  case round=>
   obtain⟨wq,hwq⟩:∃x,x=wr:=⟨_,rfl⟩;subst hwq;obtain⟨k,hk,rfl,hup⟩:=hrel;have UP:Hid (Qz wF (w.heap.size+1) V g cap (l.filter (fun x=>decide (x≠(z:Int)))) us k wq):=hup;have J:=t;by_cases K:(k:Int)<(un:Int)
   ·have r:k<us.length:=by have:=HUN.out;omega
    obtain⟨z,HZ,hz⟩:∃z:Nat,Hid (us.getD k 0=(z:Int))∧z<V:=by
     have h9:=HU.out (us.getD k 0) (by rw[HUS.out,List.getD_eq_getElem?_getD,List.getElem?_eq_getElem r];exact List.getElem_mem r);have h8:us.getD k 0=((us.getD k 0).toNat:Int):=by omega
     exact⟨(us.getD k 0).toNat,h8,by omega⟩
    have c0:wq.cell? (Z kb k)=some (vi z):=by
     rw[World.cell?_of_block (w:=wF) (a:=(Z kb k)) (hup.2.2.2 kb (by omega) (by omega)),RF.out.2.2.2.1 k r,HZ.out]
    obtain⟨_,_,_,_,hcell,hfz⟩:=hup.1.cells;have c1:=hcell z hz;have c2:=hfz z;have U:(z:Int)<(V:Int):=by omega
    have G:Hid (k<us.length):=r;clear hup hcell hfz r;go_wp2_with fail
    go_roundw
    case rel=>exact⟨k+1,by omega,by simp,UP.out.put (by omega) hz G.out HZ.out⟩
    case measure=>simp[intOf];omega
   ·obtain rfl:k=un:=by omega
    clear hup;go_wp2_with fail
    go_ret;have h1:=UP.out.1;rw[List.take_of_length_le (by have:=HUN.out;omega),←HUS.out,y9 EQ.out] at h1;exact⟨g,cap,rfl,h1.low (by omega),BF.out.trans (UP.out.2.1.mono (by omega))⟩
end Go.Proofs.YtkbhbekfniadhaaGreat
