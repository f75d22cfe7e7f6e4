/- The shape of a program, part 7: every place, as the program looks at it. The shape of a program, part 6: the phis, as the program looks at them. The shape of a program, part 8: the blocks, as the program looks at them. The shape of a program, part 9: the program's ShapeOk tells FnShape. -/
import Derived.Test.YtkbhbekfniadhaaGreatKSh4
import Derived.Test.YtkbhbekfniadhaaGreatKSh3c
import Derived.Test.YtkbhbekfniadhaaGreatKSh1
set_option maxHeartbeats 8000000
namespace Go.Proofs.YtkbhbekfniadhaaGreat
open Go.ChangeShapes Go.WideShapes Go.ChangeAt Go.RowKit
set_option linter.unusedVariables false
theorem aet {z:Int}(h:(z == 0)=false):((0:Int) == z)=false:=by
 rw[beq_eq_false_iff_ne] at h ⊢;exact fun e=>h e.symm
theorem adz (ba:Option Addr)(bn bcap:Nat)(vals op d a b n:Int)(e0:(op == 20)=false)(e1:(op == 21)=false)(e2:(op == 22)=false)(e3:(op == 23)=false)(e4:(op == 24)=false)(e5:(op == 25)=false)(h:¬(1≤op∧op≤10))(w:World) :
  Calls Tryz.prog 88 #[.agg #[.slice ba bn bcap,vi vals],.agg #[vi op,vi d,vi a,vi b,vi n]] w fun e w'=>jh w false e w':=by
 have hp:∀w:World,Calls Tryz.prog 52 #[.agg #[vi op,vi d,vi a,vi b,vi n]] w fun e w'=>e=.returned .nilIface∧Below w.heap.size w w':=by
  intro w;have hp:=qf op d a b n w;rw[JA e0 e1 e2 e3 e4 e5 h] at hp;exact hp
 have HP:Hid (∀w:World,Calls Tryz.prog 52 #[.agg #[vi op,vi d,vi a,vi b,vi n]] w fun e w'=>e=.returned .nilIface∧Below w.heap.size w w'):=hp;clear hp h;go_enter Tryz.func88,Tryz.ntmps88
 go_wp2_with fail
 refine(HP.out _).mono ?_;rintro e w1 ⟨rfl,b1⟩;have r:Hid (Below w.heap.size w w1):=Bel.after (by repeat (first | exact Below.refl _ _ | apply Below.drew | refine Below.alloc ?_ (by simp <;> omega) _ | refine Below.setCell ?_ (by simp <;> omega) _)) b1;clear b1;go_wp2
 go_region
 all_goals
  go_wp2;go_ret;exact⟨rfl,by first | exact r.out | exact r.out.drew⟩
theorem ahS (ba:Option Addr)(bn bcap:Nat)(vals op d a b n:Int)(w:World) :
  Calls Tryz.prog 88 #[.agg #[.slice ba bn bcap,vi vals],.agg #[vi op,vi d,vi a,vi b,vi n]] w fun e w'=>jh w (jO vals op d a b n) e w':=by
 rcases Jz op with h | h | h | h | h | h | ⟨⟨e0,e1,e2,e3,e4,e5⟩,⟨h,h1⟩ | h | ⟨h1,h⟩⟩
 ·subst h;cases B:(a == 0)
  ·rw[show jO vals 20 d a b n=false by rw[zG];simp[B]];exact YP ba bn bcap vals d a b n B (aet B) w
  ·obtain rfl:a=0:=by simpa using B
   cases t:(b == 0)
   ·rw[show jO vals 20 d 0 b n=false by rw[zG];simp[t]];exact YQ ba bn bcap vals d b n t (aet t) w
   ·obtain rfl:b=0:=by simpa using t
    rw[show jO vals 20 d 0 0 n=(jl vals d && List.all [] (jl vals)) by rw[zG];simp];exact YR ba bn bcap vals d n w
 ·subst h;cases t:(b == 0)
  ·rw[show jO vals 21 d a b n=false by rw[JH];simp[t]];exact aad ba bn bcap vals d a b n t (aet t) w
  ·obtain rfl:b=0:=by simpa using t
   cases r:(n == 0)
   ·rw[show jO vals 21 d a 0 n=false by rw[JH];simp[r]];exact aae ba bn bcap vals d a n r (aet r) w
   ·obtain rfl:n=0:=by simpa using r
    rw[show jO vals 21 d a 0 0=(jl vals d && List.all [a] (jl vals)) by rw[JH];simp];exact aaf ba bn bcap vals d a w
 ·subst h;cases G:(d == 0)
  ·rw[show jO vals 22 d a b n=false by rw[zH];simp[G]];exact YG ba bn bcap vals d a b n G (aet G) w
  ·obtain rfl:d=0:=by simpa using G
   cases r:(n == 0)
   ·rw[show jO vals 22 0 a b n=false by rw[zH];simp[r]];exact YH ba bn bcap vals a b n r (aet r) w
   ·obtain rfl:n=0:=by simpa using r
    rw[show jO vals 22 0 a b 0=(List.all [a,b] (jl vals)) by rw[zH];simp];exact YI ba bn bcap vals a b w
 ·subst h;cases G:(d == 0)
  ·rw[show jO vals 23 d a b n=false by rw[Jg];simp[G]];exact aaZ ba bn bcap vals d a b n G (aet G) w
  ·obtain rfl:d=0:=by simpa using G
   cases t:(b == 0)
   ·rw[show jO vals 23 0 a b n=false by rw[Jg];simp[t]];exact aa0 ba bn bcap vals a b n t (aet t) w
   ·obtain rfl:b=0:=by simpa using t
    cases r:(n == 0)
    ·rw[show jO vals 23 0 a 0 n=false by rw[Jg];simp[r]];exact aa1 ba bn bcap vals a n r (aet r) w
    ·obtain rfl:n=0:=by simpa using r
     rw[show jO vals 23 0 a 0 0=(List.all [a] (jl vals)) by rw[Jg];simp];exact aa2 ba bn bcap vals a w
 ·subst h;cases B:(a == 0)
  ·rw[show jO vals 24 d a b n=false by rw[zl];simp[B]];exact aao ba bn bcap vals d a b n B (aet B) w
  ·obtain rfl:a=0:=by simpa using B
   cases t:(b == 0)
   ·rw[show jO vals 24 d 0 b n=false by rw[zl];simp[t]];exact aap ba bn bcap vals d b n t (aet t) w
   ·obtain rfl:b=0:=by simpa using t
    cases r:(n == 0)
    ·rw[show jO vals 24 d 0 0 n=false by rw[zl];simp[r]];exact aaq ba bn bcap vals d n r (aet r) w
    ·obtain rfl:n=0:=by simpa using r
     rw[show jO vals 24 d 0 0 0=(jl vals d && List.all [] (jl vals)) by rw[zl];simp];exact aar ba bn bcap vals d w
 ·subst h;cases t:(b == 0)
  ·rw[show jO vals 25 d a b n=false by rw[JI];simp[t]];exact aah ba bn bcap vals d a b n t (aet t) w
  ·obtain rfl:b=0:=by simpa using t
   cases r:(n == 0)
   ·rw[show jO vals 25 d a 0 n=false by rw[JI];simp[r]];exact aai ba bn bcap vals d a n r (aet r) w
   ·obtain rfl:n=0:=by simpa using r
    rw[show jO vals 25 d a 0 0=(jl vals d && List.all [a] (jl vals)) by rw[JI];simp];exact aaj ba bn bcap vals d a w
 ·cases r:(n == 0)
  ·rw[show jO vals op d a b n=false by rw[Qt h h1];simp[r]];exact aal ba bn bcap vals op d a b n e0 e1 e2 e3 e4 e5 h h1 r (aet r) w
  ·obtain rfl:n=0:=by simpa using r
   rw[show jO vals op d a b 0=(jl vals d && List.all [a,b] (jl vals)) by rw[Qt h h1];simp[Bool.and_assoc]];exact aam ba bn bcap vals op d a b e0 e1 e2 e3 e4 e5 h h1 w
 ·rw[JG e0 e1 e2 e3 e4 e5 (by omega)];exact adz ba bn bcap vals op d a b n e0 e1 e2 e3 e4 e5 (by omega) w
 ·rw[JG e0 e1 e2 e3 e4 e5 (by omega)];exact adz ba bn bcap vals op d a b n e0 e1 e2 e3 e4 e5 (by omega) w
def aas (arms:List jy)(k:Nat)(c:Int):Bool:=(arms.take k).any (fun x=>x.fr == c)
theorem agc (arms:List jy)(c:Int):aas arms 0 c=false:=by simp[aas]
theorem agd {arms:List jy}{k:Nat}{x:jy}(hx:arms[k]?=some x)(c:Int):aas arms (k+1) c=(aas arms k c || (x.fr == c)):=by
 unfold aas;rw[List.take_add_one,List.any_append,hx];simp
theorem aeu {arms:List jy}{k:Nat}{c:Int}(h:aas arms k c=false)(i:Nat)(y:jy)(hi:i<k)(hy:arms[i]?=some y):(y.fr == c)=false:=by
 unfold aas at h;rw[List.any_eq_false] at h;have hm:y∈arms.take k:=by
  apply List.mem_of_getElem? (i:=i)
  rw[List.getElem?_take_of_lt hi];exact hy
 simpa using h y hm
theorem age {arms:List jy}{k:Nat}{c:Int}(h:aas arms k c=true):∃i y,i<k∧arms[i]?=some y∧(y.fr == c)=true:=by
 unfold aas at h;rw[List.any_eq_true] at h;obtain⟨y,hy,hc⟩:=h;obtain⟨i,hi,rfl⟩:=List.mem_iff_getElem.1 hy;have r:i<k∧i<arms.length:=by simp at hi;omega
 exact⟨i,_,r.1,by rw[List.getElem_take,List.getElem?_eq_getElem r.2],hc⟩
def Marks (w:World)(B:Nat)(arms:List jy)(k:Nat):Prop := ∀c:Nat,c<16→w.cell? (Z B c)=some (.bool (aas arms k (c:Int)))∧w.frozen? (Z B c)=false
theorem Marks.keep {w w':World}{B k:Nat}{arms:List jy}(h:Marks w B arms k)(hb:Below w.heap.size w w'):Marks w' B arms k:=fun c hc=>
 ⟨Bel.keeps hb (h c hc).1,by rw[hb.frozen (p:=(Z B c)) (World.block_lt_of_cell? w _ (h c hc).1)];exact(h c hc).2⟩
theorem Marks.store {w:World}{B k:Nat}{arms:List jy}{x:jy}(h:Marks w B arms k)(hx:arms[k]?=some x)(c:Nat)(hc:x.fr=(c:Int)):Marks (w.setCell (Z B c) (.bool true)) B arms (k+1):=fun c' r=>by
 rw[agd hx];refine⟨?_,by simpa using (h c' r).2⟩;by_cases e:c=c'
 ·subst e;rw[hc];simp only[beq_self_eq_true,Bool.or_true];exact World.cell?_setCell_same _ _ _ (h c r).1
 ·have t:(x.fr == (c':Int))=false:=by rw[hc];simp;omega
  rw[t,Bool.or_false,World.cell?_setCell_other _ _ _ _ (by intro h;exact e (by simpa using congrArg (fun(x:Addr)=>x.off) h))];exact(h c' r).1
theorem ahT (w:World)(arms:List jy)(t:TypeId)(B:Nat)(hB:B=w.heap.size):Marks (w.alloc (.cells #[.bool false,.bool false,.bool false,.bool false,.bool false,.bool false,.bool false,.bool false,.bool false,.bool false,.bool false,.bool false,.bool false,.bool false,.bool false,.bool false] t)) B arms 0:=fun c hc=>by
 subst hB;rw[agc];have h:c=0∨c=1∨c=2∨c=3∨c=4∨c=5∨c=6∨c=7∨c=8∨c=9∨c=10∨c=11∨c=12∨c=13∨c=14∨c=15:=by omega
 rcases h with rfl|rfl|rfl|rfl|rfl|rfl|rfl|rfl|rfl|rfl|rfl|rfl|rfl|rfl|rfl|rfl <;> simp
theorem ahU (ba:Option Addr)(bn bcap:Nat)(vals d:Int)(sv:Value)(arms:List jy)(w:World)(ha:jz 0 2 qq w sv arms)(hbn:bn≤16) :
  Calls Tryz.prog 87 #[.agg #[.slice ba bn bcap,vi vals],.agg #[vi d,sv]] w fun e w'=>zI w (Ku (bn:Int) vals ⟨d,arms⟩) e w':=by
 obtain⟨a,cap,rfl,hm,hc⟩:=ha;obtain⟨n,HN⟩:∃n,Hid (arms.length=n):=⟨_,rfl⟩;rw[HN.out] at hm hc ⊢;have HC:Hid (0<n→∃b off,a=some (Z b off)∧0≤b∧∀i x,arms[i]?=some x→qq w b (off+i*2) x):=hc;clear hc;go_enter Tryz.func87,Tryz.ntmps87
 go_wp2_with fail
 refine(qW ba bn bcap vals d _).mono ?_;rintro e w1 ⟨rfl,b1⟩;have B:Hid (Below w.heap.size w w1):=Bel.after (by repeat (first | exact Below.refl _ _ | apply Below.drew | refine Below.alloc ?_ (by simp <;> omega) _ | refine Below.setCell ?_ (by simp <;> omega) _)) b1;have f0:=Bel.keeps b1 (p:=(Z w.heap.size 0)) (v:=.slice ba bn bcap) (by simp[go_sem]);have f1:=Bel.keeps b1 (p:=(Z w.heap.size 1)) (v:=vi vals) (by simp[go_sem]);have p0:=Bel.keeps b1 (p:=(Z (w.heap.size+1) 0)) (v:=vi d) (by simp[go_sem]);have p1:=Bel.keeps b1 (p:=(Z (w.heap.size+1) 1)) (v:=.slice a n cap) (by simp[go_sem]);have U:Hid (w.heap.size<w1.heap.size):=World.block_lt_of_cell? w1 _ f0;have ae:w.heap.size<w1.heap.size:=U.out;have af:w.heap.size+1<w1.heap.size:=World.block_lt_of_cell? w1 _ p0;clear b1;cases ab:jl vals d
 ·go_wp2;go_ret;exact⟨false,rfl,by simp[Ku,ab],B.out⟩
 ·by_cases ai:(16:Int)<(n:Int)
  ·go_wp2;go_ret;exact⟨false,rfl,by have:=HN.out;simp[Ku];intro _ h;omega,B.out⟩
  ·go_wp2;go_loopw [22] (fun i wr=>∃k:Nat,k≤n∧i=vi k∧JY (bn:Int) vals arms k∧Below w.heap.size w wr∧Marks wr w1.heap.size arms k∧w1.heap.size<wr.heap.size∧wr.cell? (Z w.heap.size 0)=some (.slice ba bn bcap)∧wr.cell? (Z w.heap.size 1)=some (vi vals)) (fun i _=>n-(intOf i).toNat)
   case atStart=>exact⟨0,Nat.zero_le _,rfl,fun j x hj=>absurd hj (by omega),Bel.after B.out (Bel.alloc _ _),ahT _ _ _ _ rfl,by simp,Bel.keeps (Bel.alloc _ _) f0,Bel.keeps (Bel.alloc _ _) f1⟩
   case round=>
    clear f0 f1 p0 p1;obtain⟨k,hk,rfl,hok,hb3,hmk,hsz,f0,f1⟩:=hrel;have ag:w.heap.size<wr.heap.size:=by omega
    have HK:Hid (JY (bn:Int) vals arms k):=hok;have H1:Hid (Below w.heap.size w wr):=hb3;have HM:Hid (Marks wr w1.heap.size arms k):=hmk;clear hok hb3 hmk;by_cases aj:(k:Int)<(n:Int)
    ·obtain⟨b,off,rfl,_,hc1⟩:=HC.out (by omega);have X:k<arms.length:=by have:=HN.out;omega
     obtain⟨x,HX⟩:∃x,Hid (arms[k]?=some x):=⟨arms[k],List.getElem?_eq_getElem X⟩;obtain⟨c0,c1⟩:=(hc1 k x HX.out).keep (kM.jK H1.out 0) (Nat.zero_le _);clear hc1 X;obtain⟨x0,x1⟩:=x;go_wp2_with fail
     refine(zk ba bn bcap vals x0 _).mono ?_;rintro e w2 ⟨rfl,b2⟩;have G:Hid (Below w.heap.size w w2):=Bel.after (Bel.after H1.out (Bel.alloc _ _)) b2;have M:Hid (Marks w2 w1.heap.size arms k):=(HM.out.keep (Bel.alloc _ _)).keep b2;have y0:=Bel.keeps b2 (p:=(Z wr.heap.size 0)) (v:=vi x0) (by simp[go_sem]);have y1:=Bel.keeps b2 (p:=(Z wr.heap.size 1)) (v:=vi x1) (by simp[go_sem]);have h0:=Bel.keeps b2 (Bel.keeps (Bel.alloc _ _) f0);have h1:=Bel.keeps b2 (Bel.keeps (Bel.alloc _ _) f1);have H:w1.heap.size<w2.heap.size:=by have:=b2.size;simp at this;omega
     clear b2 f0 f1 c0 c1;cases J:jl (bn:Int) x0
     ·go_wp2;go_ret;exact⟨false,rfl,qA (by intro hp;obtain⟨_,_,h⟩:=hp;have h2:=(h k ⟨x0,x1⟩ (by have:=HN.out;show k<arms.length;omega) HX.out).1;rw[J] at h2;exact(nomatch h2)),G.out⟩
     ·obtain⟨ah,hx1⟩:=Kt.1 J;obtain⟨c,rfl⟩:=Int.eq_ofNat_of_zero_le ah;have t:c<16:=by omega
      have V:(c:Int)<16:=by omega
      obtain⟨s0,s1⟩:=M.out c t;cases r:aas arms k (c:Int)
      ·rw[r] at s0;go_wp2_with fail
       refine(qW ba bn bcap vals x1 _).mono ?_;rintro e w3 ⟨rfl,b3⟩;have L:Hid (Below w.heap.size w w3):=Bel.after G.out b3;have O:Hid (Marks w3 w1.heap.size arms k):=M.out.keep b3;have z0:=Bel.keeps b3 y0;have i0:=Bel.keeps b3 h0;have i1:=Bel.keeps b3 h1;have I:w1.heap.size<w3.heap.size:=Nat.lt_of_lt_of_le H b3.size;clear b3 y0 y1 h0 h1 s0 s1;obtain⟨s0,s1⟩:=O.out c t;rw[r] at s0;cases ac:jl vals x1
       ·go_wp2;go_ret;exact⟨false,rfl,qA (by intro hp;obtain⟨_,_,h⟩:=hp;have h2:=(h k ⟨(c:Int),x1⟩ (by have:=HN.out;show k<arms.length;omega) HX.out).2.1;rw[ac] at h2;exact(nomatch h2)),L.out⟩
       ·have K:w.heap.size<w1.heap.size:=U.out;go_wp2;go_roundw
        case rel=>exact⟨k+1,by omega,by go_num,HK.out.step HX.out J ac (fun i y hi hy=>aeu r i y hi hy),L.out.setCell (Nat.le_of_lt K) _,O.out.store HX.out c rfl,by simpa using I,by rw[World.cell?_setCell_other _ _ _ _ (by intro h;have h2:=congrArg (fun(x:Addr)=>x.block) h;simp at h2;omega)];exact i0,by rw[World.cell?_setCell_other _ _ _ _ (by intro h;have h2:=congrArg (fun(x:Addr)=>x.block) h;simp at h2;omega)];exact i1⟩
        case measure=>simp[intOf];omega
      ·rw[r] at s0;go_wp2;go_ret;exact⟨false,rfl,qA (by intro hp;obtain⟨_,_,h⟩:=hp;obtain⟨i,y,hi,hy,he⟩:=age r;have h2:=(h k ⟨(c:Int),x1⟩ (by have:=HN.out;show k<arms.length;omega) HX.out).2.2 i y hi hy;rw[he] at h2;exact(nomatch h2)),G.out⟩
    ·have aa:k=n:=by omega
     have ad:Hid (k=n):=aa;clear aa;go_wp2;go_ret;exact⟨true,rfl,⟨fun _=>⟨ab,by have:=HN.out;show arms.length≤16;omega,by show JY (bn:Int) vals arms arms.length;rw[HN.out,←ad.out];exact HK.out⟩,fun _=>rfl⟩,H1.out⟩
theorem aev (ba:Option Addr)(bn bcap:Nat)(vals:Int)(pv lv:Value)(ps:List yy)(is:List kS)(tk ta tt te:Int)(w:World)(hp:jz 0 2 (yz 0) w pv ps)(hl:jz 0 5 jU w lv is)(hbn:bn≤16) :
  Calls Tryz.prog 66 #[.agg #[.slice ba bn bcap,vi vals],.agg #[pv,lv,vi tk,vi ta,vi tt,vi te]] w fun e w'=>zI w (Kv (bn:Int) vals ⟨ps,is,⟨tk,ta,tt,te⟩⟩) e w':=by
 obtain⟨pa,pcap,rfl,hpm,hpc⟩:=hp;obtain⟨la,lcap,rfl,hlm,hlc⟩:=hl;obtain⟨pn,HPN⟩:∃n,Hid (ps.length=n):=⟨_,rfl⟩;obtain⟨ln,HLN⟩:∃n,Hid (is.length=n):=⟨_,rfl⟩;rw[HPN.out] at hpm hpc ⊢;rw[HLN.out] at hlm hlc ⊢;have M:Hid (0<pn→∃b off,pa=some (Z b off)∧0≤b∧∀i x,ps[i]?=some x→yz 0 w b (off+i*2) x):=hpc;have L:Hid (0<ln→∃b off,la=some (Z b off)∧0≤b∧∀i x,is[i]?=some x→jU w b (off+i*5) x):=hlc;clear hpc hlc;by_cases ac:(24:Int)<(pn:Int)
 ·go_enter Tryz.func66,Tryz.ntmps66
  go_wp2;go_ret;exact⟨false,rfl,qA (by intro hp;have h1:=hp.1;have h2:=HPN.out;have h3:ps.length≤24:=h1;omega),by repeat (first | exact Below.refl _ _ | apply Below.drew | refine Below.alloc ?_ (by simp <;> omega) _ | refine Below.setCell ?_ (by simp <;> omega) _)⟩
 ·by_cases X:(24:Int)<(ln:Int)
  ·go_enter Tryz.func66,Tryz.ntmps66
   go_wp2;go_ret;exact⟨false,rfl,qA (by intro hp;have h1:=hp.2.1;have h2:=HLN.out;have h3:is.length≤24:=h1;omega),by repeat (first | exact Below.refl _ _ | apply Below.drew | refine Below.alloc ?_ (by simp <;> omega) _ | refine Below.setCell ?_ (by simp <;> omega) _)⟩
  ·go_enter Tryz.func66,Tryz.ntmps66
   go_wp2;go_loopw [22] (fun i wr=>∃k:Nat,k≤pn∧i=vi k∧(∀j p,j<k→ps[j]?=some p→Ku (bn:Int) vals p)∧Below ((w.alloc (.cells #[.slice ba bn bcap,vi vals] 26)).alloc (.cells #[.slice pa pn pcap,.slice la ln lcap,vi tk,vi ta,vi tt,vi te] 43)).heap.size ((w.alloc (.cells #[.slice ba bn bcap,vi vals] 26)).alloc (.cells #[.slice pa pn pcap,.slice la ln lcap,vi tk,vi ta,vi tt,vi te] 43)) wr) (fun i _=>pn-(intOf i).toNat)
   case atStart=>exact⟨0,Nat.zero_le _,rfl,fun j x hj=>absurd hj (by omega),Below.refl _ _⟩
   case round=>
    obtain⟨k,hk,rfl,hok,hb3⟩:=hrel;have HK:Hid (∀j p,j<k→ps[j]?=some p→Ku (bn:Int) vals p):=hok;have H0:Hid (Below ((w.alloc (.cells #[.slice ba bn bcap,vi vals] 26)).alloc (.cells #[.slice pa pn pcap,.slice la ln lcap,vi tk,vi ta,vi tt,vi te] 43)).heap.size ((w.alloc (.cells #[.slice ba bn bcap,vi vals] 26)).alloc (.cells #[.slice pa pn pcap,.slice la ln lcap,vi tk,vi ta,vi tt,vi te] 43)) wr):=hb3;have H1:Hid (Below w.heap.size w wr):=Bel.after (by repeat (first | exact Below.refl _ _ | apply Below.drew | refine Below.alloc ?_ (by simp <;> omega) _ | refine Below.setCell ?_ (by simp <;> omega) _)) hb3;have f0:=Bel.keeps hb3 (p:=(Z w.heap.size 0)) (v:=.slice ba bn bcap) (by simp[go_sem]);have f1:=Bel.keeps hb3 (p:=(Z w.heap.size 1)) (v:=vi vals) (by simp[go_sem]);have g1:=Bel.keeps hb3 (p:=(Z (w.heap.size+1) 1)) (v:=.slice la ln lcap) (by simp[go_sem]);have H:w.heap.size<wr.heap.size:=World.block_lt_of_cell? wr _ f0;clear hok hb3;by_cases ae:(k:Int)<(pn:Int)
    ·obtain⟨b,off,rfl,_,hc1⟩:=M.out (by omega);have B:k<ps.length:=by have:=HPN.out;omega
     obtain⟨x,HX⟩:∃x,Hid (ps[k]?=some x):=⟨ps[k],List.getElem?_eq_getElem B⟩;obtain⟨c0,sv,c1,hsv⟩:=(hc1 k x HX.out).keep (kM.jK H1.out 0) (Nat.zero_le _);clear hc1 B;obtain⟨x0,x1⟩:=x;have U:Hid (jz 0 2 qq wr sv x1):=hsv;obtain⟨sa,scap,rfl,_⟩:=hsv;clear g1;go_wp2_with fail
     refine(ahU ba bn bcap vals x0 _ x1 _ (ZC U.out (kM.jK (Bel.alloc wr _) 0)) hbn).mono ?_;rintro e w2 ⟨bb,rfl,t,b2⟩;have I:Hid (bb=true↔Ku (bn:Int) vals ⟨x0,x1⟩):=t;have r:Hid (Below wr.heap.size wr w2):=Bel.after (Bel.alloc wr _) b2;clear t b2;cases bb
     ·go_wp2;go_ret;exact⟨false,rfl,qA (by intro hp;have h2:=I.out.2 (hp.2.2.1 k ⟨x0,x1⟩ HX.out);exact(nomatch h2)),Bel.after H1.out r.out⟩
     ·go_wp2;go_roundw
      case rel=>
       refine⟨k+1,by omega,by go_num,fun j p hj hp=>?_,Bel.after H0.out r.out⟩;by_cases e:j=k
       ·subst e;have e2:=HX.out.symm.trans hp;simp only[Option.some.injEq] at e2;subst e2;exact I.out.1 (by simp)
       ·exact HK.out j p (by omega) hp
      case measure=>simp[intOf];omega
    ·have V:k=pn:=by omega
     have O:Hid (∀(j:Nat) p,ps[j]?=some p→Ku (bn:Int) vals p):=fun j p hp=>HK.out j p (by have h1:=xP hp;have h2:=HPN.out;omega) hp
     clear V HK;go_wp2;go_loopw [34] (fun i wr=>∃k:Nat,k≤ln∧i=vi k∧(∀j p,j<k→is[j]?=some p→qN vals p=true)∧Below ((w.alloc (.cells #[.slice ba bn bcap,vi vals] 26)).alloc (.cells #[.slice pa pn pcap,.slice la ln lcap,vi tk,vi ta,vi tt,vi te] 43)).heap.size ((w.alloc (.cells #[.slice ba bn bcap,vi vals] 26)).alloc (.cells #[.slice pa pn pcap,.slice la ln lcap,vi tk,vi ta,vi tt,vi te] 43)) wr) (fun i _=>ln-(intOf i).toNat)
     case atStart=>exact⟨0,Nat.zero_le _,rfl,fun j x hj=>absurd hj (by omega),H0.out⟩
     case round=>
      clear f0 f1 g1 H;obtain⟨m,hm,rfl,hok,hb4⟩:=hrel;have HI:Hid (∀j p,j<m→is[j]?=some p→qN vals p=true):=hok;have J:Hid (Below ((w.alloc (.cells #[.slice ba bn bcap,vi vals] 26)).alloc (.cells #[.slice pa pn pcap,.slice la ln lcap,vi tk,vi ta,vi tt,vi te] 43)).heap.size ((w.alloc (.cells #[.slice ba bn bcap,vi vals] 26)).alloc (.cells #[.slice pa pn pcap,.slice la ln lcap,vi tk,vi ta,vi tt,vi te] 43)) wr):=hb4;have G:Hid (Below w.heap.size w wr):=Bel.after (by repeat (first | exact Below.refl _ _ | apply Below.drew | refine Below.alloc ?_ (by simp <;> omega) _ | refine Below.setCell ?_ (by simp <;> omega) _)) hb4;have f0:=Bel.keeps hb4 (p:=(Z w.heap.size 0)) (v:=.slice ba bn bcap) (by simp[go_sem]);have f1:=Bel.keeps hb4 (p:=(Z w.heap.size 1)) (v:=vi vals) (by simp[go_sem]);have g2:=Bel.keeps hb4 (p:=(Z (w.heap.size+1) 2)) (v:=vi tk) (by simp[go_sem]);have g3:=Bel.keeps hb4 (p:=(Z (w.heap.size+1) 3)) (v:=vi ta) (by simp[go_sem]);have g4:=Bel.keeps hb4 (p:=(Z (w.heap.size+1) 4)) (v:=vi tt) (by simp[go_sem]);have g5:=Bel.keeps hb4 (p:=(Z (w.heap.size+1) 5)) (v:=vi te) (by simp[go_sem]);have ad:w.heap.size<wr.heap.size:=World.block_lt_of_cell? wr _ f0;clear hok hb4;by_cases aa:(m:Int)<(ln:Int)
      ·obtain⟨b,off,rfl,_,hc1⟩:=L.out (by omega);have B:m<is.length:=by have:=HLN.out;omega
       obtain⟨x,HX⟩:∃x,Hid (is[m]?=some x):=⟨is[m],List.getElem?_eq_getElem B⟩;obtain⟨c0,c1,c2,c3,c4⟩:=(hc1 m x HX.out).keep (kM.jK G.out 0) (Nat.zero_le _);clear hc1 B g2 g3 g4 g5;obtain⟨x0,x1,x2,x3,x4⟩:=x;go_wp2_with fail
       refine(ahS ba bn bcap vals x0 x1 x2 x3 x4 _).mono ?_;rintro e w2 ⟨rfl,b2⟩;have r:Hid (Below wr.heap.size wr w2):=Bel.after (Bel.alloc wr _) b2;clear b2;cases t:jO vals x0 x1 x2 x3 x4
       ·go_wp2;go_ret;exact⟨false,rfl,qA (by intro hp;have h2:jO vals x0 x1 x2 x3 x4=true:=hp.2.2.2.1 m ⟨x0,x1,x2,x3,x4⟩ HX.out;rw[t] at h2;exact(nomatch h2)),Bel.after G.out r.out⟩
       ·go_wp2;go_roundw
        case rel=>
         refine⟨m+1,by omega,by go_num,fun j p hj hp=>?_,Bel.after J.out r.out⟩;by_cases e:j=m
         ·subst e;have e2:=HX.out.symm.trans hp;simp only[Option.some.injEq] at e2;subst e2;exact t
         ·exact HI.out j p (by omega) hp
        case measure=>simp[intOf];omega
      ·have ab:m=ln:=by omega
       have K:Hid (∀(j:Nat) p,is[j]?=some p→qN vals p=true):=fun j p hp=>HI.out j p (by have h1:=xP hp;have h2:=HLN.out;omega) hp
       clear ab HI;go_wp2_with fail
       refine(agb ba bn bcap vals tk ta tt te _).mono ?_;rintro e w2 ⟨rfl,b2⟩;have r:Hid (Below wr.heap.size wr w2):=b2;clear b2;go_wp2;go_ret;refine⟨jL (bn:Int) vals tk ta tt te,rfl,⟨fun h=>⟨?_,?_,O.out,K.out,h⟩,fun h=>h.2.2.2.2⟩,Bel.after G.out r.out⟩
       ·have:=HPN.out;show ps.length≤24;omega
       ·have:=HLN.out;show is.length≤24;omega
theorem adA (v:Value)(F:FnD)(w:World)(hF:kJ w v F) :
  Calls Tryz.prog 42 #[v] w fun e w'=>zI w (jm F) e w':=by
 obtain⟨bv,rfl,hb⟩:=hF;obtain⟨ba,bcap,rfl,hbm,hbc⟩:=hb;obtain⟨n,HN⟩:∃n,Hid (F.blocks.length=n):=⟨_,rfl⟩;obtain⟨vals,HV⟩:∃n,Hid (F.values=n):=⟨_,rfl⟩;rw[HN.out] at hbm hbc ⊢;rw[HV.out];have HC:Hid (0<n→∃b off,ba=some (Z b off)∧0≤b∧∀i x,F.blocks[i]?=some x→qH 0 w b (off+i*6) x):=hbc;clear hbc;by_cases h1:(n:Int)<1
 ·go_enter Tryz.func42,Tryz.ntmps42
  go_wp2;go_ret;exact⟨false,rfl,qA (by intro hp;have h2:=hp.1;have h3:=HN.out;omega),Bel.alloc _ _⟩
 ·by_cases h2:(16:Int)<(n:Int)
  ·go_enter Tryz.func42,Tryz.ntmps42
   go_wp2;go_ret;exact⟨false,rfl,qA (by intro hp;have h2:=hp.2.1;have h3:=HN.out;omega),Bel.alloc _ _⟩
  ·by_cases h3:vals<0
   ·go_enter Tryz.func42,Tryz.ntmps42
    go_wp2;go_ret;exact⟨false,rfl,qA (by intro hp;have h2:=hp.2.2.1;have h3:=HV.out;omega),Bel.alloc _ _⟩
   ·by_cases h4:(80:Int)<vals
    ·go_enter Tryz.func42,Tryz.ntmps42
     go_wp2;go_ret;exact⟨false,rfl,qA (by intro hp;have h2:=hp.2.2.2.1;have h3:=HV.out;omega),Bel.alloc _ _⟩
    ·go_enter Tryz.func42,Tryz.ntmps42
     go_wp2;go_loopw [28] (fun i wr=>∃k:Nat,k≤n∧i=vi k∧(∀j p,j<k→F.blocks[j]?=some p→Kv (n:Int) vals p)∧Below (w.alloc (.cells #[.slice ba n bcap,vi vals] 26)).heap.size (w.alloc (.cells #[.slice ba n bcap,vi vals] 26)) wr) (fun i _=>n-(intOf i).toNat)
     case atStart=>exact⟨0,Nat.zero_le _,rfl,fun j x hj=>absurd hj (by omega),Below.refl _ _⟩
     case round=>
      obtain⟨k,hk,rfl,hok,hb3⟩:=hrel;have HK:Hid (∀j p,j<k→F.blocks[j]?=some p→Kv (n:Int) vals p):=hok;have H0:Hid (Below (w.alloc (.cells #[.slice ba n bcap,vi vals] 26)).heap.size (w.alloc (.cells #[.slice ba n bcap,vi vals] 26)) wr):=hb3;have H1:Hid (Below w.heap.size w wr):=Bel.after (Bel.alloc w _) hb3;have f0:=Bel.keeps hb3 (p:=(Z w.heap.size 0)) (v:=.slice ba n bcap) (by simp[go_sem]);have f1:=Bel.keeps hb3 (p:=(Z w.heap.size 1)) (v:=vi vals) (by simp[go_sem]);have J:w.heap.size<wr.heap.size:=World.block_lt_of_cell? wr _ f0;clear hok hb3;by_cases K:(k:Int)<(n:Int)
      ·obtain⟨b,off,rfl,_,hc1⟩:=HC.out (by omega);have B:k<F.blocks.length:=by have:=HN.out;omega
       obtain⟨x,HX⟩:∃x,Hid (F.blocks[k]?=some x):=⟨F.blocks[k],List.getElem?_eq_getElem B⟩;obtain⟨pv,lv,c0,c1,c2,c3,c4,c5,hpv,hlv⟩:=(hc1 k x HX.out).keep (kM.jK H1.out 0) (Nat.zero_le _);clear hc1 B;obtain⟨x0,x1,⟨x2,x3,x4,x5⟩⟩:=x;have H:Hid (jz 0 2 (yz 0) wr pv x0):=hpv;have G:Hid (jz 0 5 jU wr lv x1):=hlv;obtain⟨pa,pcap,rfl,_⟩:=hpv;obtain⟨la,lcap,rfl,_⟩:=hlv;go_wp2_with fail
       refine(aev (some (Z b off)) n bcap vals _ _ x0 x1 x2 x3 x4 x5 _ (ZD H.out (kM.jK (Bel.alloc wr _) 0)) (kN G.out (kM.jK (Bel.alloc wr _) 0)) (by omega)).mono ?_;rintro e w2 ⟨bb,rfl,hbb,b2⟩;have t:Hid (bb=true↔Kv (n:Int) vals ⟨x0,x1,⟨x2,x3,x4,x5⟩⟩):=hbb;have r:Hid (Below wr.heap.size wr w2):=Bel.after (Bel.alloc wr _) b2;clear hbb b2;cases bb
       ·go_wp2;go_ret;exact⟨false,rfl,qA (by intro hp;have h5:=hp.2.2.2.2 k _ HX.out;rw[HN.out,HV.out] at h5;have h6:=t.out.2 h5;exact(nomatch h6)),Bel.after H1.out r.out⟩
       ·go_wp2;go_roundw
        case rel=>
         refine⟨k+1,by omega,by go_num,fun j p hj hp=>?_,Bel.after H0.out r.out⟩;by_cases e:j=k
         ·subst e;have e2:=HX.out.symm.trans hp;simp only[Option.some.injEq] at e2;subst e2;exact t.out.1 (by simp)
         ·exact HK.out j p (by omega) hp
        case measure=>simp[intOf];omega
      ·have I:k=n:=by omega
       have h:Hid (jm F):=by
        refine⟨by have:=HN.out;omega,by have:=HN.out;omega,by have:=HV.out;omega,by have:=HV.out;omega,fun j p hp=>?_⟩;rw[HN.out,HV.out];exact HK.out j p (by have h1:=xP hp;have h2:=HN.out;omega) hp
       clear I;go_wp2;go_ret;exact⟨true,rfl,⟨fun _=>h.out,fun _=>rfl⟩,H1.out⟩
end Go.Proofs.YtkbhbekfniadhaaGreat
