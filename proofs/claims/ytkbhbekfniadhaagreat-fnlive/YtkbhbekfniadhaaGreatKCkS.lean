/- The model's look, its parts: copies, and whether a value is known. The model's look, its parts: the arms of phis, and how many times a value is made. What a program tells, as mathematics: values, cells, what is read, what was told, the way, and fuel. Lists of numbers of the call's own, number by number. The model's look, its parts: how many times a value is made. -/
import Derived.Test.YtkbhbekfniadhaaGreatKDfs
import Derived.Test.YtkbhbekfniadhaaGreatKPre
import Derived.Test.YtkbhbekfniadhaaGreatKSh8
import Derived.Test.YtkbhbekfniadhaaGreatKIns
import Derived.Test.YtkbhbekfniadhaaGreatKTo
import Derived.Deep.OwnRows
set_option maxRecDepth 100000
set_option maxHeartbeats 8000000
namespace Go.Proofs.YtkbhbekfniadhaaGreat
open Go.ChangeShapes Go.WideShapes Go.ChangeAt Go.RowKit Go.Shelf
set_option linter.unusedVariables false
def aeC (w:World)(p:Prop)(e:Ending)(w':World):Prop := ∃t:Bool,e=.returned (.bool t)∧(t=true↔p)∧Below w.heap.size w w'
theorem acz (v:Value)(F:FnD)(w:World)(hF:kJ w v F)(hS:jm F) :
  Calls Tryz.prog 116 #[v] w fun e w'=>aeC w (JU F) e w':=by
 have HF:Hid (kJ w v F):=hF;have HS:Hid (jm F):=hS;obtain⟨n,HN⟩:∃n,Hid (F.blocks.length=n):=⟨_,rfl⟩;obtain⟨vals,HV⟩:∃x,Hid (F.values=x):=⟨_,rfl⟩;obtain⟨ba,bcap,rfl⟩:=hF.out HN.out HV.out;have M:n≤16:=by have:=hS.2.1;have:=HN.out;omega
 clear hF hS;go_enter Tryz.func116,Tryz.ntmps116
 go_wp2_with fail
 obtain⟨w1,hw1⟩:∃W,w.alloc (.cells #[.slice ba n bcap,vi vals] 26)=W:=⟨_,rfl⟩;have c0:w1.cell? (Z w.heap.size 0)=some (.slice ba n bcap):=by rw[←hw1];simp[go_sem]
 have B1:Hid (Below w.heap.size w w1):=by rw[←hw1];exact Bel.alloc _ _
 have F1:Hid (kJ w1 (.agg #[.slice ba n bcap,vi vals]) F):=HF.out.later B1.out;rw[hw1];clear hw1;obtain⟨FB,hFB⟩:∃x,w.heap.size=x:=⟨_,rfl⟩;rw[hFB] at c0 ⊢;clear hFB;go_loopw [3] (fun i wr=>∃k:Nat,k≤n∧i=vi (k:Int)∧wr=w1∧∀(b:Nat) (x:jc) (j:Nat) (y:kS),b<k→F.blocks[b]?=some x→x.list[j]?=some y→y.op≠25) (fun i _=>n-(intOf i).toNat)
 case atStart=>exact⟨0,Nat.zero_le _,rfl,rfl,fun b x j y hb=>absurd hb (by omega)⟩
 case round=>
  obtain⟨k,hk,rfl,rfl,hno⟩:=hrel;have H:Hid (∀(b:Nat) (x:jc) (j:Nat) (y:kS),b<k→F.blocks[b]?=some x→x.list[j]?=some y→y.op≠25):=hno;clear hno;by_cases O:(k:Int)<(n:Int)
  ·have K:k<n:=by omega
   obtain⟨x,hx⟩:∃x,F.blocks[k]?=some x:=⟨_,List.getElem?_eq_getElem (by have:=HN.out;omega)⟩;obtain⟨b,off,rfl,hat⟩:=F1.out.yg HN.out K hx;obtain⟨pv,lv,b0,b1,b2,b3,b4,b5,hps,hls⟩:=hat;have G:Hid (jz 0 5 jU wr lv x.list):=hls;obtain⟨la,lcap,rfl,hlm,_⟩:=hls;obtain⟨nl,HNL⟩:∃n,Hid (x.list.length=n):=⟨_,rfl⟩;rw[HNL.out] at b1 hlm G;have U:nl≤24:=by have:=(HS.out.2.2.2.2 k x hx).2.1;have:=HNL.out;omega
   have HX:Hid (F.blocks[k]?=some x):=hx;clear b0 b2 b3 b4 b5 hps hx;go_wp2_with fail
   go_loopw [4] (fun i ws=>∃j:Nat,j≤nl∧i=vi (j:Int)∧ws=wr∧∀(i:Nat) (y:kS),i<j→x.list[i]?=some y→y.op≠25) (fun i _=>nl-(intOf i).toNat)
   case atStart=>exact⟨0,Nat.zero_le _,rfl,rfl,fun i y hi=>absurd hi (by omega)⟩
   case round=>
    obtain⟨j,hj,rfl,hws,hno⟩:=hrel;subst hws;have r:Hid (∀(i:Nat) (y:kS),i<j→x.list[i]?=some y→y.op≠25):=hno;clear hno;by_cases L:(j:Int)<(nl:Int)
    ·obtain⟨y,hy⟩:∃y,x.list[j]?=some y:=⟨_,List.getElem?_eq_getElem (by have:=HNL.out;omega)⟩;obtain⟨lb,loff,rfl,q0,q1,q2,q3,q4⟩:=yh G.out hy;have HY:Hid (x.list[j]?=some y):=hy;obtain⟨op,HOP⟩:∃q,Hid (y.op=q):=⟨_,rfl⟩;rw[HOP.out] at q0;clear q1 q2 q3 q4 hy;by_cases t:op=25
     ·subst t;go_wp2_with fail
      go_ret;exact⟨true,rfl,⟨fun _=>⟨k,x,j,y,HX.out,HY.out,HOP.out⟩,fun _=>rfl⟩,B1.out⟩
     ·have J:(op == 25)=false:=by simp[t]
      go_wp2_with fail
      go_roundw
      case rel=>
       refine⟨j+1,by omega,by go_num,(by first | trivial|rfl),fun i z hi hz=>?_⟩;by_cases e:i=j
       ·subst e;have e2:=HY.out.symm.trans hz;cases e2
        rw[HOP.out];exact t
       ·exact r.out i z (by omega) hz
      case measure=>simp[intOf];omega
    ·go_wp2_with fail
     go_roundw
     case rel=>
      refine⟨k+1,by omega,by go_num,(by first | trivial|rfl),fun b2 x2 j2 y2 hb I B=>?_⟩;by_cases e:b2=k
      ·subst e;have e2:=HX.out.symm.trans I;cases e2
       exact r.out j2 y2 (by have:=(List.getElem?_eq_some_iff.1 B).1;have:=HNL.out;omega) B
      ·exact H.out b2 x2 j2 y2 (by omega) I B
     case measure=>simp[intOf];omega
  ·go_wp2_with fail
   go_ret;refine⟨false,rfl,⟨fun h=>(by cases h),fun⟨b,x,i,y,h1,h2,h3⟩=>?_⟩,B1.out⟩;exact absurd h3 (H.out b x i y (by have:=(List.getElem?_eq_some_iff.1 h1).1;have:=HN.out;omega) h1 h2)
theorem yo (v:Value)(F:FnD)(dg n:Nat)(us:Array Value)(lo:Nat)(x:Int)(b:Nat)(at_:Int)(w:World)(hF:kJ w v F)(hS:jm F)(hN:F.blocks.length=n)(hD:OwnRows w lo dg n us (KL F))(hb:b<n) :
  Calls Tryz.prog 133 #[v,sq dg 0 n n,vi x,vi (b:Int),vi at_] w fun e w'=>aeC w (xS F x b at_) e w':=by
 have HF:Hid (kJ w v F):=hF;have HS:Hid (jm F):=hS;have HN:Hid (F.blocks.length=n):=hN;have HD:Hid (OwnRows w lo dg n us (KL F)):=hD;obtain⟨vals,HV⟩:∃x,Hid (F.values=x):=⟨_,rfl⟩;obtain⟨ba,bcap,rfl⟩:=hF.out HN.out HV.out;clear hF hS hN hD;obtain⟨q1,HQ1⟩:∃q,Hid ((yp F x).1=q):=⟨_,rfl⟩;obtain⟨q2,HQ2⟩:∃q,Hid ((yp F x).2=q):=⟨_,rfl⟩;go_enter Tryz.func133,Tryz.ntmps133
 go_wp2_with fail
 refine(adM _ F x _ (HF.out.later (Bel.alloc _ _)) HS.out).mono ?_;rintro e w1 ⟨rfl,b1⟩;rw[HQ1.out,HQ2.out];have B1:Hid (Below w.heap.size w w1):=Bel.after (Bel.alloc _ _) b1;have D1:Hid (OwnRows w1 lo dg n us (KL F)):=HD.out.keep B1.out;clear b1;have HK:Hid (xS F x b at_↔(if q1=(b:Int) then q2<at_ else 0≤q1∧q1∈KL F b)):=by
  show xS F x b at_↔_;unfold xS;rw[HQ1.out,HQ2.out]
 by_cases he:q1=(b:Int)
 ·subst he;have J:((b:Int) == (b:Int))=true:=by simp
  have r:Hid (xS F x b at_↔q2<at_):=by
   have h:=HK.out;rw[if_pos rfl] at h;exact h
  by_cases L:q2<at_
  ·go_wp2_with fail
   go_ret;exact⟨true,rfl,⟨fun _=>r.out.2 L,fun _=>rfl⟩,B1.out⟩
  ·go_wp2_with fail
   go_ret;exact⟨decide (q2<at_),rfl,by rw[decide_eq_true_iff];exact r.out.symm,B1.out⟩
 ·have J:(q1 == (b:Int))=false:=by simp[he]
  have r:Hid (xS F x b at_↔0≤q1∧q1∈KL F b):=by
   have h:=HK.out;rw[if_neg he] at h;exact h
  by_cases K:0≤q1
  ·have H:=D1.out.cell hb;have B:=D1.out.row b hb;have G:=B.at
   obtain⟨ra,rcap,hra,_⟩:=id G;obtain⟨ln,HLN⟩:∃q,Hid ((KL F b).length=q):=⟨_,rfl⟩;rw[HLN.out] at hra;rw[hra] at H G;have I:Hid (jV w1 (.slice ra ln rcap) (KL F b)):=G;have M:(b:Int)<(n:Int):=by omega
   clear G B hra;go_wp2_with fail
   refine(Z6 _ (KL F b) q1 _ I.out).mono ?_;rintro e w2 ⟨rfl,hw2⟩;subst hw2;obtain⟨t,HT⟩:∃t,Hid (decide (q1∈KL F b)=t):=⟨_,rfl⟩;rw[HT.out];go_wp2_with fail
   go_ret;refine⟨t,rfl,?_,B1.out⟩;rw[r.out,←HT.out];simp[K]
  ·go_wp2_with fail
   go_ret;exact⟨false,rfl,⟨fun h=>(by cases h),fun h=>absurd (r.out.1 h).1 (by omega)⟩,B1.out⟩
theorem aff (v:Value)(F:FnD)(w:World)(hF:kJ w v F)(hS:jm F) :
  Calls Tryz.prog 119 #[v] w fun e w'=>aeC w (Ke F) e w':=by
 have HF:Hid (kJ w v F):=hF;have HS:Hid (jm F):=hS;obtain⟨n,HN⟩:∃n,Hid (F.blocks.length=n):=⟨_,rfl⟩;obtain⟨vals,HV⟩:∃x,Hid (F.values=x):=⟨_,rfl⟩;obtain⟨ba,bcap,rfl⟩:=hF.out HN.out HV.out;have ai:n≤16:=by have:=hS.2.1;have:=HN.out;omega
 clear hF hS;go_enter Tryz.func119,Tryz.ntmps119
 go_wp2_with fail
 obtain⟨w1,hw1⟩:∃W,w.alloc (.cells #[.slice ba n bcap,vi vals] 26)=W:=⟨_,rfl⟩;have c0:w1.cell? (Z w.heap.size 0)=some (.slice ba n bcap):=by rw[←hw1];simp[go_sem]
 have c1:w1.cell? (Z w.heap.size 1)=some (vi vals):=by rw[←hw1];simp[go_sem]
 have B1:Hid (Below w.heap.size w w1):=by rw[←hw1];exact Bel.alloc _ _
 have F1:Hid (kJ w1 (.agg #[.slice ba n bcap,vi vals]) F):=HF.out.later B1.out;rw[hw1];clear hw1;obtain⟨FB,hFB⟩:∃x,w.heap.size=x:=⟨_,rfl⟩;rw[hFB] at c0 c1 ⊢;clear hFB;have C0:Hid (w1.cell? (Z FB 0)=some (.slice ba n bcap)):=c0;have C1:Hid (w1.cell? (Z FB 1)=some (vi vals)):=c1;go_loopw [3] (fun i wr=>∃k:Nat,k≤n∧i=vi (k:Int)∧Below w1.heap.size w1 wr∧∀(b:Nat) (x:jc),b<k→F.blocks[b]?=some x→∀p∈x.phis,Zg F b p) (fun i _=>n-(intOf i).toNat)
 case atStart=>exact⟨0,Nat.zero_le _,rfl,Below.refl _ _,fun b x hb=>absurd hb (by omega)⟩
 case round=>
  obtain⟨wq,hwq⟩:∃x,x=wr:=⟨_,rfl⟩;subst hwq;obtain⟨k,hk,rfl,hB,hok⟩:=hrel;have HB:Hid (Below w1.heap.size w1 wq):=hB;have M:Hid (∀(b:Nat) (x:jc),b<k→F.blocks[b]?=some x→∀p∈x.phis,Zg F b p):=hok;replace c0:=Bel.keeps hB C0.out;replace c1:=Bel.keeps hB C1.out;clear hok hB;by_cases aj:(k:Int)<(n:Int)
  ·have ad:k<n:=by omega
   obtain⟨x,hx⟩:∃x,F.blocks[k]?=some x:=⟨_,List.getElem?_eq_getElem (by have:=HN.out;omega)⟩;have HX:Hid (F.blocks[k]?=some x):=hx;go_wp2_with fail
   refine(zj _ F (k:Int) _ (F1.out.later HB.out) HS.out.2.1).mono ?_;rintro e w2 ⟨qv,rfl,oq,b2⟩;have B2:Hid (Below w1.heap.size w1 w2):=Bel.after HB.out b2;have OQ:Hid (jV w2 qv (yf F (k:Int))):=oq.at
   obtain⟨qn,HQN⟩:∃q,Hid ((yf F (k:Int)).length=q):=⟨_,rfl⟩;obtain⟨qa,qcap,rfl⟩:∃a c,qv=.slice a qn c:=by
    obtain⟨a,c,e,_⟩:=OQ.out;rw[HQN.out] at e;exact⟨a,c,e⟩
   obtain⟨b,off,rfl,hat⟩:=(F1.out.later B2.out).yg HN.out ad hx;obtain⟨pv,lv,b0,b1,b2',b3,b4,b5,hps,hls⟩:=hat;have O:Hid (jz 0 2 (yz 0) w2 pv x.phis):=hps;obtain⟨pa,pcap,rfl,hpm,_⟩:=hps;obtain⟨np,HNP⟩:∃n,Hid (x.phis.length=n):=⟨_,rfl⟩;rw[HNP.out] at b0 hpm O;have ak:np≤24:=by have:=(HS.out.2.2.2.2 k x hx).1;have:=HNP.out;omega
   have ac:Hid (∀(j:Nat) p,x.phis[j]?=some p→Ku (F.blocks.length:Int) F.values p):=(HS.out.2.2.2.2 k x hx).2.2.1;replace c0:=Bel.keeps b2 c0;replace c1:=Bel.keeps b2 c1;have am:qn≤16:=by have h1:=aac F (k:Int) F.blocks.length;have h2:=HQN.out;have h3:=HN.out;have h4:(yf F (k:Int)).length≤F.blocks.length:=h1;omega
   clear b1 b2' b3 b4 b5 hls hx oq b2;go_wp2_with fail
   go_loopw [5] (fun i ws=>∃j:Nat,j≤np∧i=vi (j:Int)∧ws=w2∧∀(i:Nat) (p:yy),i<j→x.phis[i]?=some p→Zg F k p) (fun i _=>np-(intOf i).toNat)
   case atStart=>exact⟨0,Nat.zero_le _,rfl,rfl,fun i p hi=>absurd hi (by omega)⟩
   case round=>
    obtain⟨j,hj,rfl,I,hfit⟩:=hrel;have I:=I.symm;subst I;have G:Hid (∀(i:Nat) (p:yy),i<j→x.phis[i]?=some p→Zg F k p):=hfit;clear hfit;by_cases ae:(j:Int)<(np:Int)
    ·obtain⟨p,hp⟩:∃p,x.phis[j]?=some p:=⟨_,List.getElem?_eq_getElem (by have:=HNP.out;omega)⟩;have U:=ac.out j p hp;obtain⟨pb,poff,rfl,q1,av,q2,hav⟩:=yh O.out hp;have HP:Hid (x.phis[j]?=some p):=hp;have K:Hid (jz 0 2 qq w2 av p.arms):=hav;obtain⟨aa,acap,rfl,ham,_⟩:=hav;obtain⟨m,HM⟩:∃q,Hid (p.arms.length=q):=⟨_,rfl⟩;rw[HM.out] at q2 ham K;have ag:m≤16:=by have:=U.2.1;have:=HM.out;omega
     clear hp U q1;by_cases H:m=qn
     ·subst H;have ah:((m:Int) != (m:Int))=false:=by simp
      go_wp2_with fail
      go_loopw [7] (fun i wt=>∃t:Nat,t≤m∧i=vi (t:Int)∧wt=w2∧∀(i:Nat) (a:jy),i<t→p.arms[i]?=some a→a.fr∈yf F (k:Int)) (fun i _=>m-(intOf i).toNat)
      case atStart=>exact⟨0,Nat.zero_le _,rfl,rfl,fun i p hi=>absurd hi (by omega)⟩
      case round=>
       obtain⟨t,ht,rfl,J,hin⟩:=hrel;have J:=J.symm;subst J;have L:Hid (∀(i:Nat) (a:jy),i<t→p.arms[i]?=some a→a.fr∈yf F (k:Int)):=hin;clear hin;by_cases af:(t:Int)<(m:Int)
       ·obtain⟨y,hy⟩:∃y,p.arms[t]?=some y:=⟨_,List.getElem?_eq_getElem (by have:=HM.out;omega)⟩;obtain⟨ab,aoff,rfl,r1,r2⟩:=yh K.out hy;have HY:Hid (p.arms[t]?=some y):=hy;obtain⟨fr,HFRR⟩:∃q,Hid (y.fr=q):=⟨_,rfl⟩;rw[HFRR.out] at r1;clear r2 hy;go_wp2_with fail
        refine(Z6 _ (yf F (k:Int)) fr _ OQ.out).mono ?_;rintro e w3 ⟨rfl,hw3⟩;subst hw3;by_cases r:fr∈yf F (k:Int)
        ·rw[decide_eq_true r];have B:Hid (fr∈yf F (k:Int)):=r;clear r;go_wp2_with fail
         go_roundw
         case rel=>
          refine⟨t+1,by omega,by go_num,(by first | trivial|rfl),fun i z hi hz=>?_⟩;by_cases e:i=t
          ·subst e;have e2:=HY.out.symm.trans hz;cases e2
           rw[HFRR.out];exact B.out
          ·exact L.out i z (by omega) hz
         case measure=>simp[intOf];omega
        ·rw[decide_eq_false r];have B:Hid (¬fr∈yf F (k:Int)):=r;clear r;go_wp2_with fail
         go_ret;refine⟨false,rfl,⟨fun h=>(by cases h),fun h=>absurd ?_ B.out⟩,Bel.after B1.out B2.out⟩;rw[←HFRR.out];exact(h k x HX.out p (List.mem_of_getElem? HP.out)).2 y (List.mem_of_getElem? HY.out)
       ·go_wp2_with fail
        go_roundw
        case rel=>
         refine⟨j+1,by omega,by go_num,(by first | trivial|rfl),fun i z hi hz=>?_⟩;by_cases e:i=j
         ·subst e;have e2:=HP.out.symm.trans hz;cases e2
          refine⟨by rw[HM.out,HQN.out],fun a ha=>?_⟩;obtain⟨i,hi2⟩:=List.getElem?_of_mem ha;exact L.out i a (by have:=(List.getElem?_eq_some_iff.1 hi2).1;have:=HM.out;omega) hi2
         ·exact G.out i z (by omega) hz
        case measure=>simp[intOf];omega
     ·have ah:((m:Int) != (qn:Int))=true:=by simp;omega
      have X:Hid (¬m=qn):=H;clear H;go_wp2_with fail
      go_ret;refine⟨false,rfl,⟨fun h=>(by cases h),fun h=>absurd ?_ X.out⟩,Bel.after B1.out B2.out⟩;rw[←HM.out,←HQN.out];exact(h k x HX.out p (List.mem_of_getElem? HP.out)).1
    ·go_wp2_with fail
     go_roundw
     case rel=>
      refine⟨k+1,by omega,by go_num,B2.out,fun b2 x2 hb V p hp=>?_⟩;by_cases e:b2=k
      ·subst e;have e2:=HX.out.symm.trans V;cases e2
       obtain⟨i,hi2⟩:=List.getElem?_of_mem hp;exact G.out i p (by have:=(List.getElem?_eq_some_iff.1 hi2).1;have:=HNP.out;omega) hi2
      ·exact M.out b2 x2 (by omega) V p hp
     case measure=>simp[intOf];omega
  ·go_wp2_with fail
   go_ret;refine⟨true,rfl,⟨fun _ b x hx p hp=>?_,fun _=>rfl⟩,Bel.after B1.out HB.out⟩;exact M.out b x (by have:=(List.getElem?_eq_some_iff.1 hx).1;have:=HN.out;omega) hx p hp
def updN (f:Nat→Int)(k:Nat)(x:Int):Nat→Int:=fun i=>if i=k then x else f i
def cellOk (a:Int):Prop:=0≤a∧a≤7
instance (a : Int):Decidable (cellOk a):=inferInstanceAs (Decidable (0≤a∧a≤7))
theorem J2 {w:World}{b:Nat}{t:TypeId}(h:∃c,w.heap[b]?=some (.cells c t (0,0)))(o:Nat):w.frozen? (Z b o)=false:=by
 obtain⟨c,h⟩:=h;simp[World.frozen?,h]
def KI (n:Nat)(f:Nat→Int):List Int:=(List.range n).map f
theorem zW (n:Nat)(f:Nat→Int):(KI n f).length=n:=by simp[KI]
theorem aeD (n:Nat)(f:Nat→Int){i:Nat}(h:i<n):(KI n f).getD i 0=f i:=by simp[KI,List.getD,h]
theorem agr (n:Nat)(f:Nat→Int)(d:Nat)(x:Int):(KI n f).set d x=KI n (updN f d x):=by
 apply List.ext_getElem?
 intro i;by_cases hi:i<n
 ·by_cases e:d=i
  ·subst e;simp[KI,updN,hi]
  ·have e2:¬i=d:=fun h=>e h.symm
   simp[KI,updN,hi,e,e2]
 ·rw[List.getElem?_eq_none (by simp[KI];omega),List.getElem?_eq_none (by simp[KI];omega)]
theorem ja.ags {w:World}{lo g n cap:Nat}{l:List Int}(h:ja w lo (sq g 0 n cap) l):∃c,w.heap[g]?=some (.cells c 3 (0,0)):=by
 rcases h.2 with ⟨h0,_⟩ | ⟨g',cap',cur,h0,_,hg,_⟩
 ·cases h0
 ·cases h0
  exact⟨cur,hg⟩
theorem ja.len {w:World}{lo g n cap:Nat}{l:List Int}(h:ja w lo (sq g 0 n cap) l):n=l.length:=by
 rcases h.2 with ⟨h0,_⟩ | ⟨g',cap',cur,h0,_,hg,_⟩
 ·cases h0
 ·cases h0
  rfl
theorem ja.setAt {w:World}{lo g n cap:Nat}{l:List Int}(h:ja w lo (sq g 0 n cap) l){d:Nat}(hd:d<n)(x:Int):ja (w.setCell (Z g d) (vi x)) lo (sq g 0 n cap) (l.set d x):=by
 have hn:=h.len;rcases h with ⟨r,h⟩;rcases h with ⟨h0,_⟩ | ⟨g',cap',cur,h0,hlo,hg,h1,h2,h3,h4⟩
 ·cases h0
 ·cases h0
  refine⟨by simp,.inr ⟨g,cap,cur.setIfInBounds d (vi x),by simp,hlo,heap_setCell_same _ _ _ _ _ _ hg,by simpa using h1,by simpa using h2,by simpa using h3,?_⟩⟩;have e:(cur.setIfInBounds d (vi x)).toList=cur.toList.set d (vi x):=by simp
  rw[e,List.length_set,List.take_set,h4,List.map_set]
theorem ja.cellAt {w:World}{lo g n cap:Nat}{l:List Int}(h:ja w lo (sq g 0 n cap) l){i:Nat}(hi:i<n):w.cell? (Z g i)=some (vi (l.getD i 0)):=by
 have hn:=h.len;obtain⟨a,c,e,hc⟩:=h.row;obtain⟨g',e2,_,_,h1,_⟩:=hc (by omega);subst e2;simp at e;obtain⟨rfl,_,_⟩:=e;exact h1 i (by omega)
theorem agt (n:Nat)(hn:n≤1048576)(w:World):(Instr.makeSlice 30 (vi (n:Int)) (vi (n:Int))).run Tryz.prog w=.ok (sq w.heap.size 0 n n) (w.alloc (.cells (madeCells #[vi 0] n) 3)) :=
 run_make_row' 30 3 (vi 0) 8 Tryz.underlying30 (by kernel_rfl) rfl .i64 .i64 n (by omega) (by omega) w
theorem own_made {w:World}{lo:Nat}(n:Nat)(hn:n≤1048576)(hlo:lo≤w.heap.size):ja (w.alloc (.cells (madeCells #[vi 0] n) 3)) lo (sq w.heap.size 0 n n) (KI n (fun _=>0)):=by
 have hm : n ≤ maxLen := by have : 1048576 ≤ maxLen := by decide
                            omega
 refine⟨by simp[zW],.inr ⟨w.heap.size,n,madeCells #[vi 0] n,by rw[zW],hlo,World.alloc_heap_new w _,by rw[zW];exact Nat.le_refl _,hm,by simp[size_madeCells],?_⟩⟩;rw[toList_madeCells_one,zW];simp[KI];exact(List.eq_replicate_iff.2 ⟨by simp,by simp⟩).symm
def zM (l:List Made):Nat→Int:=fun i=>(xo (i:Int) l:Int)
theorem afg (l:List Made)(m:Made)(d:Nat)(h:m.1=(d:Int)):updN (zM l) d (zM l d+1)=zM (l ++ [m]):=by
 funext i
 unfold updN zM;rw[acG];by_cases e:i=d
 ·subst e;simp[h]
 ·have e2:¬m.1=(i:Int):=by rw[h];omega
  simp[e,e2]
theorem agu : zM []=fun _=>0:=by funext i;simp[zM,xo]
theorem J3 {F:FnD}(hS:jm F){b:Nat}{x:jc}(hx:F.blocks[b]?=some x){j:Nat}{p:yy}(hp:x.phis[j]?=some p):0≤p.d∧p.d<F.values:=by
 have h:=((hS.2.2.2.2 b x hx).2.2.1 j p hp).1;simp[jl] at h;exact h
theorem J7 {F:FnD}(hS:jm F){b:Nat}{x:jc}(hx:F.blocks[b]?=some x){j:Nat}{y:kS}(hy:x.list[j]?=some y)(hm:kD y.op=true):0≤y.d∧y.d<F.values:=by
 have h:=(hS.2.2.2.2 b x hx).2.2.2.1 j y hy;unfold qN jO at h;simp only[kD,decide_eq_true_eq] at hm;by_cases h1:1≤y.op∧y.op≤10
 ·rw[if_pos h1] at h;simp[jl] at h;omega
 ·rw[if_neg h1] at h;have hc:y.op=20∨y.op=21∨y.op=24∨y.op=25:=by omega
  rcases hc with hc | hc | hc | hc <;> simp[hc,jl] at h <;> omega
theorem makes_in {F:FnD}(hS:jm F):∀m∈qG F,0≤m.1∧m.1<F.values:=by
 intro m hm;obtain⟨b,x,hx,hmx⟩:=Zf hm;unfold xK at hmx;rcases List.mem_append.1 hmx with h | h
 ·unfold jW at h;obtain⟨p,hp,rfl⟩:=List.mem_map.1 h;obtain⟨j,hj⟩:=List.getElem?_of_mem hp;exact J3 hS hx hj
 ·obtain⟨j,y,hy,hmk,rfl⟩:=Ya h;exact J7 hS hx hy hmk
theorem J8 (b:Nat)(ps:List yy):(jW b ps).length=ps.length:=by simp[jW]
theorem J9 (b:Nat)(l:List kS):∀k,(insMakes b l k).length≤k
 | 0=>Nat.le_refl _
 | k+1=>by
  unfold insMakes;rw[List.length_append];have:=J9 b l k;split
  ·split
   ·simp;omega
   ·simp;omega
  ·simp;omega
theorem Qd {F:FnD}(hS:jm F):∀k,(makesUp F k).length≤k*48
 | 0=>Nat.le_refl _
 | k+1=>by
  unfold makesUp;rw[List.length_append];have h1:=Qd hS k;split
  ·rename_i x hx
   have h2:=hS.2.2.2.2 k x hx;unfold xK;rw[List.length_append,J8];have h3:=J9 k x.list x.list.length;have h4:=h2.1;have h5:=h2.2.1;omega
  ·simp;omega
def xw (w2 wr:World)(FB G vn:Nat)(l:List Made):Prop:=ja wr FB (sq G 0 vn vn) (KI vn (zM l))∧Below G w2 wr
theorem xw.fn {w2 wr:World}{FB G vn:Nat}{l:List Made}(h:xw w2 wr FB G vn l)(hg:FB+1=G){v:Value}(hc:w2.cell? (Z FB 0)=some v):wr.cell? (Z FB 0)=some v:=(h.2.cell (p:=(Z FB 0)) (by show FB<G;omega)).trans hc
theorem xw.cell {w2 wr:World}{FB G vn:Nat}{l:List Made}(h:xw w2 wr FB G vn l){d:Nat}(hd:d<vn):wr.cell? (Z G d)=some (vi (zM l d)):=by
 have:=h.1.cellAt hd;rw[aeD _ _ hd] at this;exact this
theorem xw.frozen {w2 wr:World}{FB G vn:Nat}{l:List Made}(h:xw w2 wr FB G vn l)(d:Nat):wr.frozen? (Z G d)=false:=J2 ⟨_,(h.1.ags).choose_spec⟩ d
theorem xw.put {w2 wr:World}{FB G vn:Nat}{l:List Made}(h:xw w2 wr FB G vn l){d:Nat}(hd:d<vn)(hg:FB<G)(m:Made)(hm:m.1=(d:Int)):xw w2 (wr.setCell (Z G d) (vi (zM l d+1))) FB G vn (l ++ [m]):=by
 refine⟨?_,h.2.setCell (Nat.le_refl _) _⟩;have:=h.1.setAt hd (zM l d+1);rw[agr,afg l m d hm] at this;exact this
theorem xw.later {w2 wr w4:World}{FB G vn:Nat}{l:List Made}(h:xw w2 wr FB G vn l)(hg:FB+1=G)(hs:G<w2.heap.size)(b:Below wr.heap.size wr w4):xw w2 w4 FB G vn l:=⟨h.1.keep b,h.2.trans (b.mono (by have:=h.2.size;omega))⟩
theorem Y5 (l:List Made)(d:Nat)(h:l.length≤100000):0≤zM l d∧zM l d≤100000:=by
 have:=afo (d:Int) l;unfold zM;omega
theorem afh (v:Value)(F:FnD)(vn:Nat)(w:World)(hF:kJ w v F)(hS:jm F)(hvn:(vn:Int)=F.values) :
  Calls Tryz.prog 120 #[v] w fun e w'=>JS w (KI vn (zM (qG F))) e w':=by
 have HF:Hid (kJ w v F):=hF;have HS:Hid (jm F):=hS;obtain⟨n,HN⟩:∃n,Hid (F.blocks.length=n):=⟨_,rfl⟩;obtain⟨ba,bcap,rfl⟩:=hF.out HN.out hvn.symm;have ah:n≤16:=by have:=hS.2.1;have:=HN.out;omega
 have ai:vn≤80:=by have:=hS.2.2.2.1;omega
 have ad:Hid ((vn:Int)=F.values):=hvn;clear hF hS hvn;go_enter Tryz.func120,Tryz.ntmps120
 have mk:=agt vn (by omega) (w.alloc (.cells #[.slice ba n bcap,vi (vn:Int)] 26));go_wp2_with fail
 clear mk;obtain⟨w1,hw1⟩:∃W,w.alloc (.cells #[.slice ba n bcap,vi (vn:Int)] 26)=W:=⟨_,rfl⟩;have c0:w1.cell? (Z w.heap.size 0)=some (.slice ba n bcap):=by rw[←hw1];simp[go_sem]
 have B1:Hid (Below w.heap.size w w1):=by rw[←hw1];exact Bel.alloc _ _
 have X:w1.heap.size=w.heap.size+1:=by rw[←hw1];simp
 try rw[hw1]
 clear hw1;obtain⟨w2,hw2⟩:∃W,w1.alloc (.cells (madeCells #[vi 0] vn) 3)=W:=⟨_,rfl⟩;have O2:Hid (ja w2 w.heap.size (sq (w.heap.size+1) 0 vn vn) (KI vn (zM (makesUp F 0)))):=by
  have h:=own_made (w:=w1) (lo:=w.heap.size) vn (by omega) (by omega);rw[hw2,X] at h;rw[show makesUp F 0 = [] from rfl,agu];exact h
 have B2:Hid (Below w.heap.size w w2):=Bel.after B1.out (by rw[←hw2];exact Bel.alloc _ _);have c2:w2.cell? (Z w.heap.size 0)=some (.slice ba n bcap):=by rw[←hw2];exact Bel.keeps (Bel.alloc _ _) c0
 try rw[X]
 try rw[hw2]
 clear hw2 c0 X;obtain⟨G,HG⟩:∃x,Hid (w.heap.size+1=x):=⟨_,rfl⟩;obtain⟨FB,HFB⟩:∃x,Hid (w.heap.size=x):=⟨_,rfl⟩;have r:Hid (FB+1=G):=by show FB+1=G;rw[←HFB.out];exact HG.out
 replace O2:=O2.out;rw[HG.out,HFB.out] at O2;rw[HFB.out] at c2;have C2:Hid (w2.cell? (Z FB 0)=some (.slice ba n bcap)):=c2;have S2:Hid (G<w2.heap.size):=(World.ownsRow.lt O2 G rfl).2;have M2:Hid (xw w2 w2 FB G vn []):=⟨O2,Below.refl _ _⟩;rw[HG.out,HFB.out];clear O2 c2;go_loopw [4] (fun i wr=>∃k:Nat,k≤n∧i=vi (k:Int)∧xw w2 wr FB G vn (makesUp F k)) (fun i _=>n-(intOf i).toNat)
 case atStart=>exact⟨0,Nat.zero_le _,rfl,M2.out⟩
 case round=>
  obtain⟨k,hk,rfl,hm⟩:=hrel;have HM:Hid (xw w2 wr FB G vn (makesUp F k)):=hm;have cr:=hm.fn r.out C2.out;have BR:Hid (Below w.heap.size w wr):=Below.trans B2.out (hm.2.mono (by have:=HFB.out;have:=r.out;omega));clear hm;by_cases aj:(k:Int)<(n:Int)
  ·have J:k<n:=by omega
   obtain⟨x,hx⟩:∃x,F.blocks[k]?=some x:=⟨_,List.getElem?_eq_getElem (by have:=HN.out;omega)⟩;have HX:Hid (F.blocks[k]?=some x):=hx;obtain⟨b,off,rfl,hat⟩:=(HF.out.later BR.out).yg HN.out J hx;obtain⟨np,HNP⟩:∃n,Hid (x.phis.length=n):=⟨_,rfl⟩;obtain⟨nl,HNL⟩:∃n,Hid (x.list.length=n):=⟨_,rfl⟩;have am:np≤24:=by have:=(HS.out.2.2.2.2 k x hx).1;have:=HNP.out;omega
   have ak:nl≤24:=by have:=(HS.out.2.2.2.2 k x hx).2.1;have:=HNL.out;omega
   clear hx hat;go_wp2_with fail
   go_loopw [5] (fun i wr=>∃j:Nat,j≤np∧i=vi (j:Int)∧xw w2 wr FB G vn (makesUp F k ++ jW k (x.phis.take j))) (fun i _=>np-(intOf i).toNat)
   case atStart=>exact⟨0,Nat.zero_le _,rfl,by simpa [jW] using HM.out⟩
   case round=>
    obtain⟨j,hj,rfl,hm⟩:=hrel;have H:Hid (xw w2 wr FB G vn (makesUp F k ++ jW k (x.phis.take j))):=hm;have cs:=hm.fn r.out C2.out;have BS:Hid (Below w.heap.size w wr):=Below.trans B2.out (hm.2.mono (by have:=HFB.out;have:=r.out;omega));clear hm;obtain⟨b',off',e',hat⟩:=(HF.out.later BS.out).yg HN.out J HX.out;cases e'
    obtain⟨pv,lv,b0,b1,b2',b3,b4,b5,hps,hls⟩:=hat;have ac:Hid (jz 0 2 (yz 0) wr pv x.phis):=hps;obtain⟨pa,pcap,rfl,hpm,_⟩:=hps;rw[HNP.out] at b0 hpm ac;have aa:Hid (jz 0 5 jU wr lv x.list):=hls;obtain⟨la,lcap,rfl,hlm,_⟩:=hls;rw[HNL.out] at b1 hlm aa;by_cases af:(j:Int)<(np:Int)
    ·clear b1 hlm aa b2' b3 b4 b5;obtain⟨p,hp⟩:∃p,x.phis[j]?=some p:=⟨_,List.getElem?_eq_getElem (by have:=HNP.out;omega)⟩;obtain⟨pb,poff,rfl,q1,av,q2,hav⟩:=yh ac.out hp;have HP:Hid (x.phis[j]?=some p):=hp;obtain⟨d,hd⟩:∃d:Nat,p.d=(d:Int):=⟨p.d.toNat,by have:=J3 HS.out HX.out hp;omega⟩;have I:d<vn:=by have:=J3 HS.out HX.out hp;have:=ad.out;omega
     have V:(d:Int)<(vn:Int):=by omega
     rw[hd] at q1;have gc:=H.out.cell I;have gf:=H.out.frozen d;obtain⟨c,HC⟩:∃c,Hid (zM (makesUp F k ++ jW k (x.phis.take j)) d=c):=⟨_,rfl⟩;rw[HC.out] at gc;have ae:0≤c∧c≤100000:=by
      rw[←HC.out];refine Y5 _ _ ?_;rw[List.length_append,J8,List.length_take];have:=Qd HS.out k;omega
     have HD:Hid (p.d=(d:Int)):=hd;clear hp hd q2 hav;go_wp2_with fail
     go_roundw
     case rel=>
      refine⟨j+1,by omega,by go_num,?_⟩;have h:=H.out.put I (by have:=r.out;omega) ((p.d,(k:Int),-1):Made) HD.out;rw[HC.out] at h;rw[Jn HP.out,←List.append_assoc];exact h
     case measure=>simp[intOf];omega
    ·have M:Hid (xw w2 wr FB G vn (makesUp F k ++ jW k x.phis)):=by
      have h:=H.out;rw[List.take_of_length_le (by have:=HNP.out;omega)] at h;exact h
     clear H;go_wp2_with fail
     go_loopw [6] (fun i wr=>∃t:Nat,t≤nl∧i=vi (t:Int)∧xw w2 wr FB G vn (makesUp F k ++ jW k x.phis ++ insMakes k x.list t)) (fun i _=>nl-(intOf i).toNat)
     case atStart=>exact⟨0,Nat.zero_le _,rfl,by simpa [insMakes] using M.out⟩
     case round=>
      obtain⟨t,ht,rfl,hm⟩:=hrel;have U:Hid (xw w2 wr FB G vn (makesUp F k ++ jW k x.phis ++ insMakes k x.list t)):=hm;have ct:=hm.fn r.out C2.out;have BT:Hid (Below w.heap.size w wr):=Below.trans B2.out (hm.2.mono (by have:=HFB.out;have:=r.out;omega));clear hm;obtain⟨b',off',e',hat⟩:=(HF.out.later BT.out).yg HN.out J HX.out;cases e'
      obtain⟨ao,lv2,b0',b1',b2'',b3',b4',b5',hps,hls⟩:=hat;have ab:Hid (jz 0 5 jU wr lv2 x.list):=hls;obtain⟨an,lcap2,rfl,hlm2,_⟩:=hls;rw[HNL.out] at b1' hlm2 ab;by_cases ag:(t:Int)<(nl:Int)
      ·obtain⟨y,hy⟩:∃y,x.list[t]?=some y:=⟨_,List.getElem?_eq_getElem (by have:=HNL.out;omega)⟩;obtain⟨lb,loff,rfl,q0,q1,q2,q3,q4⟩:=yh ab.out hy;have HY:Hid (x.list[t]?=some y):=hy;clear hy;go_wp2_with fail
       refine(JB _ _ _ _ _ _).mono ?_;rintro e w4 ⟨rfl,b4'⟩;have L:Hid (xw w2 w4 FB G vn (makesUp F k ++ jW k x.phis ++ insMakes k x.list t)):=U.out.later r.out S2.out b4';clear U b4' q0 q1 q2 q3 q4;by_cases B:kD y.op=true
       ·obtain⟨d,hd⟩:∃d:Nat,y.d=(d:Int):=⟨y.d.toNat,by have:=J7 HS.out HX.out HY.out B;omega⟩;have I:d<vn:=by have:=J7 HS.out HX.out HY.out B;have:=ad.out;omega
        have V:(d:Int)<(vn:Int):=by omega
        have gc:=L.out.cell I;have gf:=L.out.frozen d;obtain⟨c,HC⟩:∃c,Hid (zM (makesUp F k ++ jW k x.phis ++ insMakes k x.list t) d=c):=⟨_,rfl⟩;rw[HC.out] at gc;have ae:0≤c∧c≤100000:=by
         rw[←HC.out];refine Y5 _ _ ?_;rw[List.length_append,List.length_append,J8];have:=Qd HS.out k;have:=J9 k x.list t;have:=HNP.out;omega
        have HD:Hid (y.d=(d:Int)):=hd;have O:Hid (kD y.op=true):=B;rw[show jX y.op y.d=(d:Int) by rw[jX,if_pos B,hd]];clear B hd;go_wp2_with fail
        go_roundw
        case rel=>
         refine⟨t+1,by omega,by go_num,?_⟩;have h:=L.out.put I (by have:=r.out;omega) ((y.d,(k:Int),(t:Int)):Made) HD.out;rw[HC.out] at h;rw[Kb HY.out O.out,←List.append_assoc];exact h
        case measure=>simp[intOf];omega
       ·have K:kD y.op=false:=by simpa using B
        have O:Hid (kD y.op=false):=K;rw[show jX y.op y.d = -1 by rw[jX,if_neg B]];clear B K;go_wp2_with fail
        go_roundw
        case rel=>
         refine⟨t+1,by omega,by go_num,?_⟩;rw[Za HY.out O.out];exact L.out
        case measure=>simp[intOf];omega
      ·go_wp2_with fail
       go_roundw
       case rel=>
        refine⟨k+1,by omega,by go_num,?_⟩;rw[zw HX.out,xK,←List.append_assoc];have h:=U.out;rw[show t=x.list.length by have:=HNL.out;omega] at h;exact h
       case measure=>simp[intOf];omega
  ·have J:k=F.blocks.length:=by have:=HN.out;omega
   subst J;go_wp2_with fail
   go_ret;refine⟨_,rfl,?_,BR.out⟩;rw[HFB.out];exact HM.out.1
end Go.Proofs.YtkbhbekfniadhaaGreat
