/- The model's look, its parts: what is taken is made ahead. What the laws over drawn programs ask of the way between blocks and of who comes first, as mathematics. Sets of blocks: an array of bools by value, and its methods. A table of sets of blocks: an array of arrays by value, in a block of memory; rows out of it and into it. The model's look. -/
import Derived.Test.YtkbhbekfniadhaaGreatKCkS
import Derived.Test.YtkbhbekfniadhaaGreatKIns
import Derived.Deep.RegionHeld3
import Derived.Test.YtkbhbekfniadhaaGreatKDfs
import Derived.Test.YtkbhbekfniadhaaGreatKTo
import Derived.Deep.MidRow
import Derived.Deep.WholeRow
import Derived.Laws.ResultCell
import Derived.Laws.CopyOwn
import Derived.Test.YtkbhbekfniadhaaGreatKPre
import Derived.Test.YtkbhbekfniadhaaGreatKSh8
set_option maxRecDepth 100000
set_option maxHeartbeats 16000000
namespace Go.Proofs.YtkbhbekfniadhaaGreat
open Go.ChangeShapes Go.WideShapes Go.ChangeAt Go.RowKit Go.Shelf
set_option linter.unusedVariables false
theorem Jj {t:Bool}{p:Prop}(h:t=true↔p)(hp:¬p):t=false:=by
 cases t
 ·rfl
 ·exact absurd (h.1 rfl) hp
theorem acA {l:List Int}{i:Nat}(h:i<l.length):l.getD i 0∈l:=by
 rw[List.getD_eq_getElem?_getD,List.getElem?_eq_getElem h];exact List.getElem_mem h
theorem aeE {l:List Int}{v:Int}(h:v∈l):∃i,i<l.length∧l.getD i 0=v:=by
 obtain⟨i,hi,e⟩:=List.getElem_of_mem h;refine⟨i,hi,?_⟩;rw[List.getD_eq_getElem?_getD,List.getElem?_eq_getElem hi];exact e
theorem adF (v:Value)(F:FnD)(w:World)(hF:kJ w v F)(hS:jm F) :
  Calls Tryz.prog 121 #[v] w fun e w'=>aeC w (QD F) e w':=by
 have HF:Hid (kJ w v F):=hF;have HS:Hid (jm F):=hS;obtain⟨n,HN⟩:∃n,Hid (F.blocks.length=n):=⟨_,rfl⟩;obtain⟨vals,HV⟩:∃x,Hid (F.values=x):=⟨_,rfl⟩;obtain⟨ba,bcap,rfl⟩:=hF.out HN.out HV.out;have aB:n≤16:=by have:=hS.2.1;have:=HN.out;omega
 clear hF hS;go_enter Tryz.func121,Tryz.ntmps121
 go_wp2_with fail
 refine(af4 _ F _ (HF.out.later (Bel.alloc _ _)) HS.out).mono ?_;rintro e w2 ⟨dg,us,rfl,hD,b2⟩;rw[HN.out] at hD;rw[HN.out];have C0:Hid (w2.cell? (Z w.heap.size 0)=some (.slice ba n bcap)):=Bel.keeps b2 (by simp[go_sem]);have C1:Hid (w2.cell? (Z w.heap.size 1)=some (vi vals)):=Bel.keeps b2 (by simp[go_sem]);have B2:Hid (Below w.heap.size w w2):=Bel.after (Bel.alloc _ _) b2;have F2:Hid (kJ w2 (.agg #[.slice ba n bcap,vi vals]) F):=HF.out.later B2.out;have D2:Hid (OwnRows w2 _ dg n us (KL F)):=hD;clear hD b2;obtain⟨lo,hlo⟩:∃x,(w.alloc (.cells #[.slice ba n bcap,vi vals] 26)).heap.size=x:=⟨_,rfl⟩;rw[hlo] at D2;clear hlo;obtain⟨FB,hFB⟩:∃x,w.heap.size=x:=⟨_,rfl⟩;have aD:Hid (w.heap.size=FB):=hFB;rw[hFB] at C0 C1;go_wp2_with fail
 try rw[hFB]
 clear hFB;go_loopw [4] (fun i wr=>∃k:Nat,k≤n∧i=vi (k:Int)∧Below w2.heap.size w2 wr∧∀(b:Nat) (x:jc),b<k→F.blocks[b]?=some x→adH F b x) (fun i _=>n-(intOf i).toNat)
 case atStart=>exact⟨0,Nat.zero_le _,rfl,Below.refl _ _,fun b x hb=>absurd hb (by omega)⟩
 case round=>
  obtain⟨wq,hwq⟩:∃x,x=wr:=⟨_,rfl⟩;subst hwq;obtain⟨k,hk,rfl,hB,hok⟩:=hrel;have HB:Hid (Below w2.heap.size w2 wq):=hB;have ak:Hid (∀(b:Nat) (x:jc),b<k→F.blocks[b]?=some x→adH F b x):=hok;have c0:=Bel.keeps hB C0.out;have c1:=Bel.keeps hB C1.out;clear hB hok;by_cases aE:(k:Int)<(n:Int)
  ·have V:k<n:=by omega
   obtain⟨x,hx⟩:∃x,F.blocks[k]?=some x:=⟨_,List.getElem?_eq_getElem (by have:=HN.out;omega)⟩;have HX:Hid (F.blocks[k]?=some x):=hx;obtain⟨b,off,rfl,hat⟩:=(F2.out.later HB.out).yg HN.out V hx;obtain⟨pv,lv,b0,b1,b2,b3,b4,b5,hps,hls⟩:=hat;obtain⟨np,HNP⟩:∃n,Hid (x.phis.length=n):=⟨_,rfl⟩;obtain⟨nl,HNL⟩:∃n,Hid (x.list.length=n):=⟨_,rfl⟩;have aG:np≤24:=by have:=(HS.out.2.2.2.2 k x hx).1;have:=HNP.out;omega
   have aF:nl≤24:=by have:=(HS.out.2.2.2.2 k x hx).2.1;have:=HNL.out;omega
   have an:Hid (jz 0 2 (yz 0) wq pv x.phis):=hps;obtain⟨pa,pcap,rfl,hpm,_⟩:=hps;rw[HNP.out] at b0 hpm an;have aj:Hid (jz 0 5 jU wq lv x.list):=hls;obtain⟨la,lcap,rfl,hlm,_⟩:=hls;rw[HNL.out] at b1 hlm aj;obtain⟨tk,HTK⟩:∃q,Hid (x.term.k=q):=⟨_,rfl⟩;obtain⟨ta,HTA⟩:∃q,Hid (x.term.a=q):=⟨_,rfl⟩;obtain⟨tt,HTT⟩:∃q,Hid (x.term.t=q):=⟨_,rfl⟩;obtain⟨te,HTE⟩:∃q,Hid (x.term.e=q):=⟨_,rfl⟩;rw[HTK.out] at b2;rw[HTA.out] at b3;rw[HTT.out] at b4;rw[HTE.out] at b5;clear hx;go_wp2_with fail
   obtain⟨w3,hw3⟩:∃W,wq.alloc (.cells #[.slice pa np pcap,.slice la nl lcap,vi tk,vi ta,vi tt,vi te] 43)=W:=⟨_,rfl⟩;have X0:Hid (w3.cell? (Z wq.heap.size 0)=some (.slice pa np pcap)):=by show _=_;rw[←hw3];simp[go_sem]
   have X1:Hid (w3.cell? (Z wq.heap.size 1)=some (.slice la nl lcap)):=by show _=_;rw[←hw3];simp[go_sem]
   have X2:Hid (w3.cell? (Z wq.heap.size 2)=some (vi tk)):=by show _=_;rw[←hw3];simp[go_sem]
   have X3:Hid (w3.cell? (Z wq.heap.size 3)=some (vi ta)):=by show _=_;rw[←hw3];simp[go_sem]
   have X4:Hid (w3.cell? (Z wq.heap.size 4)=some (vi tt)):=by show _=_;rw[←hw3];simp[go_sem]
   have X5:Hid (w3.cell? (Z wq.heap.size 5)=some (vi te)):=by show _=_;rw[←hw3];simp[go_sem]
   have X:Hid (Below wq.heap.size wq w3):=by show Below _ _ _;rw[←hw3];exact Bel.alloc _ _
   have B3:Hid (Below w2.heap.size w2 w3):=Bel.after HB.out X.out;rw[hw3];clear hw3;obtain⟨XB,hXB⟩:∃x,wq.heap.size=x:=⟨_,rfl⟩;rw[hXB] at X0 X1 X2 X3 X4 X5;rw[hXB];clear hXB b0 b1 b2 b3 b4 b5 c0 c1;go_loopw [6] (fun i wr=>∃j:Nat,j≤nl∧i=vi (j:Int)∧Below w3.heap.size w3 wr∧∀(i:Nat) (y:kS),i<j→x.list[i]?=some y→∀v∈kK y.op y.a y.b,xS F v k (i:Int)) (fun i _=>nl-(intOf i).toNat)
   case atStart=>exact⟨0,Nat.zero_le _,rfl,Below.refl _ _,fun b x hb=>absurd hb (by omega)⟩
   case round=>
    obtain⟨ws,hwq⟩:∃x,x=wr:=⟨_,rfl⟩;subst hwq;obtain⟨j,hj,rfl,hB,hok⟩:=hrel;have G:Hid (Below w3.heap.size w3 ws):=hB;have I:Hid (∀(i:Nat) (y:kS),i<j→x.list[i]?=some y→∀v∈kK y.op y.a y.b,xS F v k (i:Int)):=hok;have s1:=Bel.keeps hB X1.out;clear hB hok;by_cases az:(j:Int)<(nl:Int)
    ·obtain⟨y,hy⟩:∃y,x.list[j]?=some y:=⟨_,List.getElem?_eq_getElem (by have:=HNL.out;omega)⟩;obtain⟨lb,loff,rfl,q0,q1,q2,q3,q4⟩:=yh (aj.out.keep (fun b o z hb h=>h.keep (kM.jK (Bel.after X.out G.out) 0) hb)) hy;have HY:Hid (x.list[j]?=some y):=hy;clear hy;go_wp2_with fail
     refine(Ki _ _ _ _ _ _).mono ?_;rintro e w4 ⟨uv,ub,rfl,hub,hrow,b4⟩;have B4:Hid (Below w3.heap.size w3 w4):=Bel.after G.out b4;obtain⟨U,HU⟩:∃q,Hid (kK y.op y.a y.b=q):=⟨_,rfl⟩;rw[HU.out] at hrow;obtain⟨ul,HUL⟩:∃q,Hid (U.length=q):=⟨_,rfl⟩;have O:Hid (yI w4 ub uv U):=hrow;obtain⟨rfl,hum,_,_,_⟩:=hrow;rw[HUL.out] at hum O;rw[HUL.out];clear hub b4 q0 q1 q2 q3 q4 s1;go_wp2_with fail
     go_loopw [8] (fun i wr=>∃q:Nat,q≤ul∧i=vi (q:Int)∧Below w4.heap.size w4 wr∧∀(i:Nat),i<q→xS F (U.getD i 0) k (j:Int)) (fun i _=>ul-(intOf i).toNat)
     case atStart=>exact⟨0,Nat.zero_le _,rfl,Below.refl _ _,fun i hb=>absurd hb (by omega)⟩
     case round=>
      obtain⟨wu,hwq⟩:∃x,x=wr:=⟨_,rfl⟩;subst hwq;obtain⟨q,hq,rfl,hB,hok⟩:=hrel;have H:Hid (Below w4.heap.size w4 wu):=hB;have B:Hid (Below w2.heap.size w2 wu):=Bel.after B3.out (Bel.after B4.out hB);have r:Hid (∀(i:Nat),i<q→xS F (U.getD i 0) k (j:Int)):=hok;have c0:=Bel.keeps B.out C0.out;have c1:=Bel.keeps B.out C1.out;have FU:Hid (kJ wu (.agg #[sq b off n bcap,vi vals]) F):=F2.out.later B.out;have DU:Hid (OwnRows wu lo dg n us (KL F)):=D2.out.keep B.out;clear hB hok;by_cases ad:(q:Int)<(ul:Int)
      ·have aC:q<ul:=by omega
       have uc:=(O.out.keep H.out).2.2.2.1 q (by have:=HUL.out;omega);obtain⟨xv,HXV⟩:∃z,Hid (U.getD q 0=z):=⟨_,rfl⟩;rw[HXV.out] at uc;by_cases hK:xS F xv k (j:Int)
       ·have HK:Hid (xS F xv k (j:Int)):=hK;clear hK;go_wp2_with fail
        go_region_held3 (fun w'=>w'.cell? (Z FB 0)=some (sq b off n bcap)∧w'.cell? (Z FB 1)=some (vi vals)∧w'.cell? (Z ub q)=some (vi xv)) (first | exact⟨Bel.keeps B5.out c0,Bel.keeps B5.out c1,Bel.keeps B5.out uc⟩ | go_keep) (first | (go_at_call 133;refine(yo _ F dg n us lo xv k (j:Int) _ (FU.out.later ((Below.refl _ _).drew)) HS.out HN.out (DU.out.keep ((Below.refl _ _).drew)) V).mono ?_;rintro e w5 ⟨t,rfl,ht,hb5⟩;have et:=ht.2 HK.out;subst et;have B5:Hid (Below wu.heap.size wu w5):=Bel.after ((Below.refl _ _).drew) hb5;clear ht hb5))
        simp only[Exit.then]
        go_at_K
        go_wp2_with fail
        go_roundw
        case rel=>
         refine⟨q+1,by omega,by go_num,?_,fun i hi=>?_⟩
         ·exact Bel.after H.out B5.out
         ·by_cases e:i=q
          ·subst e;rw[HXV.out];exact HK.out
          ·exact r.out i (by omega)
        case measure=>simp[intOf];omega
       ·have HK:Hid (¬xS F xv k (j:Int)):=hK;clear hK;go_wp2_with fail
        go_region_held3 (fun w'=>w'.cell? (Z FB 0)=some (sq b off n bcap)∧w'.cell? (Z FB 1)=some (vi vals)∧w'.cell? (Z ub q)=some (vi xv)) (first | exact⟨Bel.keeps B5.out c0,Bel.keeps B5.out c1,Bel.keeps B5.out uc⟩ | go_keep) (first | (go_at_call 133;refine(yo _ F dg n us lo xv k (j:Int) _ (FU.out.later ((Below.refl _ _).drew)) HS.out HN.out (DU.out.keep ((Below.refl _ _).drew)) V).mono ?_;rintro e w5 ⟨t,rfl,ht,hb5⟩;have et:=Jj ht HK.out;subst et;have B5:Hid (Below wu.heap.size wu w5):=Bel.after ((Below.refl _ _).drew) hb5;clear ht hb5))
        simp only[Exit.then]
        go_at_K
        go_wp2_with fail
        go_ret;refine⟨false,rfl,⟨fun h=>(by cases h),fun h=>absurd ((h k x HX.out).1 j y HY.out xv ?_) HK.out⟩,B2.out.trans ((Bel.after B.out B5.out).mono (by have:=B2.out.size;omega))⟩;rw[HU.out,←HXV.out];exact acA (by have:=HUL.out;omega)
      ·go_wp2_with fail
       go_roundw
       case rel=>
        refine⟨j+1,by omega,by go_num,Bel.after B4.out H.out,fun i z hi hz=>?_⟩;by_cases e:i=j
        ·subst e;have e2:=HY.out.symm.trans hz;cases e2
         rw[HU.out];intro v hv;obtain⟨t,ht,rfl⟩:=aeE hv;exact r.out t (by have:=HUL.out;omega)
        ·exact I.out i z (by omega) hz
       case measure=>simp[intOf];omega
    ·have HI:Hid (∀(i:Nat) (y:kS),x.list[i]?=some y→∀v∈kK y.op y.a y.b,xS F v k (i:Int)):=fun i y hy=>I.out i y (by have:=(List.getElem?_eq_some_iff.1 hy).1;have:=HNL.out;omega) hy
     have s2:=Bel.keeps G.out X2.out;have s3:=Bel.keeps G.out X3.out;have s4:=Bel.keeps G.out X4.out;have s5:=Bel.keeps G.out X5.out;clear I;go_wp2_with fail
     refine(QZ _ _ _ _ _).mono ?_;rintro e w4 ⟨uv,ub,rfl,hub,hrow,b4⟩;have B4:Hid (Below w3.heap.size w3 w4):=Bel.after G.out b4;obtain⟨U,HU⟩:∃q,Hid (kT tk ta=q):=⟨_,rfl⟩;rw[HU.out] at hrow;obtain⟨ul,HUL⟩:∃q,Hid (U.length=q):=⟨_,rfl⟩;have O:Hid (yI w4 ub uv U):=hrow;obtain⟨rfl,hum,_,_,_⟩:=hrow;rw[HUL.out] at hum O;rw[HUL.out];clear hub b4 s1 s2 s3 s4 s5;go_wp2_with fail
     go_loopw [10] (fun i wr=>∃q:Nat,q≤ul∧i=vi (q:Int)∧Below w4.heap.size w4 wr∧∀(i:Nat),i<q→xS F (U.getD i 0) k (nl:Int)) (fun i _=>ul-(intOf i).toNat)
     case atStart=>exact⟨0,Nat.zero_le _,rfl,Below.refl _ _,fun i hb=>absurd hb (by omega)⟩
     case round=>
      obtain⟨wu,hwq⟩:∃x,x=wr:=⟨_,rfl⟩;subst hwq;obtain⟨q,hq,rfl,hB,hok⟩:=hrel;have H:Hid (Below w4.heap.size w4 wu):=hB;have B:Hid (Below w2.heap.size w2 wu):=Bel.after B3.out (Bel.after B4.out hB);have r:Hid (∀(i:Nat),i<q→xS F (U.getD i 0) k (nl:Int)):=hok;have c0:=Bel.keeps B.out C0.out;have c1:=Bel.keeps B.out C1.out;have x1:=Bel.keeps (Bel.after B4.out hB) X1.out;have x0:=Bel.keeps (Bel.after B4.out hB) X0.out;have FU:Hid (kJ wu (.agg #[sq b off n bcap,vi vals]) F):=F2.out.later B.out;have DU:Hid (OwnRows wu lo dg n us (KL F)):=D2.out.keep B.out;clear hB hok;by_cases ad:(q:Int)<(ul:Int)
      ·have aC:q<ul:=by omega
       have uc:=(O.out.keep H.out).2.2.2.1 q (by have:=HUL.out;omega);obtain⟨xv,HXV⟩:∃z,Hid (U.getD q 0=z):=⟨_,rfl⟩;rw[HXV.out] at uc;clear x0;by_cases hK:xS F xv k (nl:Int)
       ·have HK:Hid (xS F xv k (nl:Int)):=hK;clear hK;go_wp2_with fail
        go_region_held3 (fun w'=>w'.cell? (Z FB 0)=some (sq b off n bcap)∧w'.cell? (Z FB 1)=some (vi vals)∧w'.cell? (Z ub q)=some (vi xv)∧w'.cell? (Z XB 1)=some (.slice la nl lcap)) (first | exact⟨Bel.keeps B5.out c0,Bel.keeps B5.out c1,Bel.keeps B5.out uc,Bel.keeps B5.out x1⟩ | go_keep) (first | (go_at_call 133;refine(yo _ F dg n us lo xv k (nl:Int) _ (FU.out.later ((Below.refl _ _).drew)) HS.out HN.out (DU.out.keep ((Below.refl _ _).drew)) V).mono ?_;rintro e w5 ⟨t,rfl,ht,hb5⟩;have et:=ht.2 HK.out;subst et;have B5:Hid (Below wu.heap.size wu w5):=Bel.after ((Below.refl _ _).drew) hb5;clear ht hb5))
        simp only[Exit.then]
        go_at_K
        go_wp2_with fail
        go_roundw
        case rel=>
         refine⟨q+1,by omega,by go_num,?_,fun i hi=>?_⟩
         ·exact Bel.after H.out B5.out
         ·by_cases e:i=q
          ·subst e;rw[HXV.out];exact HK.out
          ·exact r.out i (by omega)
        case measure=>simp[intOf];omega
       ·have HK:Hid (¬xS F xv k (nl:Int)):=hK;clear hK;go_wp2_with fail
        go_region_held3 (fun w'=>w'.cell? (Z FB 0)=some (sq b off n bcap)∧w'.cell? (Z FB 1)=some (vi vals)∧w'.cell? (Z ub q)=some (vi xv)∧w'.cell? (Z XB 1)=some (.slice la nl lcap)) (first | exact⟨Bel.keeps B5.out c0,Bel.keeps B5.out c1,Bel.keeps B5.out uc,Bel.keeps B5.out x1⟩ | go_keep) (first | (go_at_call 133;refine(yo _ F dg n us lo xv k (nl:Int) _ (FU.out.later ((Below.refl _ _).drew)) HS.out HN.out (DU.out.keep ((Below.refl _ _).drew)) V).mono ?_;rintro e w5 ⟨t,rfl,ht,hb5⟩;have et:=Jj ht HK.out;subst et;have B5:Hid (Below wu.heap.size wu w5):=Bel.after ((Below.refl _ _).drew) hb5;clear ht hb5))
        simp only[Exit.then]
        go_at_K
        go_wp2_with fail
        go_ret;refine⟨false,rfl,⟨fun h=>(by cases h),fun h=>absurd ?_ HK.out⟩,B2.out.trans ((Bel.after B.out B5.out).mono (by have:=B2.out.size;omega))⟩
        have h2:=(h k x HX.out).2.1 xv (by
         rw[HTK.out,HTA.out,HU.out,←HXV.out]
         exact acA (by have:=HUL.out;omega))
        rw[HNL.out] at h2;exact h2
      ·have HT:Hid (∀v∈kT x.term.k x.term.a,xS F v k (x.list.length:Int)):=by
        intro v hv;rw[HTK.out,HTA.out,HU.out] at hv;rw[HNL.out];obtain⟨t,ht,rfl⟩:=aeE hv;exact r.out t (by have:=HUL.out;omega)
       clear r;go_wp2_with fail
       go_loopw [11] (fun i wr=>∃g:Nat,g≤np∧i=vi (g:Int)∧Below wu.heap.size wu wr∧∀(i:Nat) (p:yy),i<g→x.phis[i]?=some p→∀a∈p.arms,xS F a.v a.fr.toNat (Qe F a.fr.toNat)) (fun i _=>np-(intOf i).toNat)
       case atStart=>exact⟨0,Nat.zero_le _,rfl,Below.refl _ _,fun i p hb=>absurd hb (by omega)⟩
       case round=>
        obtain⟨wg,hwq⟩:∃x,x=wr:=⟨_,rfl⟩;subst hwq;obtain⟨g,hg,rfl,hB,hok⟩:=hrel;have ar:Hid (Below wu.heap.size wu wg):=hB;have ae:Hid (Below w2.heap.size w2 wg):=Bel.after B.out hB;have aq:Hid (Below wq.heap.size wq wg):=Bel.after X.out (Bel.after B4.out (Bel.after H.out hB));have L:Hid (∀(i:Nat) (p:yy),i<g→x.phis[i]?=some p→∀a∈p.arms,xS F a.v a.fr.toNat (Qe F a.fr.toNat)):=hok;have g0:=Bel.keeps hB x0;clear hB hok;by_cases ax:(g:Int)<(np:Int)
        ·obtain⟨p,hp⟩:∃p,x.phis[g]?=some p:=⟨_,List.getElem?_eq_getElem (by have:=HNP.out;omega)⟩;have am:Hid (Ku (F.blocks.length:Int) F.values p):=(HS.out.2.2.2.2 k x HX.out).2.2.1 g p hp;obtain⟨pb,poff,rfl,z1,av,z2,hav⟩:=yh (an.out.keep (fun b o z hb h=>h.keep (kM.jK aq.out 0) hb)) hp;have HP:Hid (x.phis[g]?=some p):=hp;have ag:Hid (jz 0 2 qq wg av p.arms):=hav;obtain⟨aa,acap,rfl,ham,_⟩:=hav;obtain⟨m,HM⟩:∃q,Hid (p.arms.length=q):=⟨_,rfl⟩;rw[HM.out] at z2 ham ag;have aA:m≤16:=by have:=am.out.2.1;have:=HM.out;omega
         clear hp z1;have Z2:Hid (wg.cell? (Z pb (poff+g*2+1))=some (.slice aa m acap)):=z2;have G0:Hid (wg.cell? (Z XB 0)=some (sq pb poff np pcap)):=g0;go_wp2_with fail
         go_loopw [12] (fun i wr=>∃h:Nat,h≤m∧i=vi (h:Int)∧Below wg.heap.size wg wr∧∀(i:Nat) (a:jy),i<h→p.arms[i]?=some a→xS F a.v a.fr.toNat (Qe F a.fr.toNat)) (fun i _=>m-(intOf i).toNat)
         case atStart=>exact⟨0,Nat.zero_le _,rfl,Below.refl _ _,fun i p hb=>absurd hb (by omega)⟩
         case round=>
          obtain⟨wh,hwq⟩:∃x,x=wr:=⟨_,rfl⟩;subst hwq;obtain⟨h,hh,rfl,hB,hok⟩:=hrel;have ac:Hid (Below wg.heap.size wg wh):=hB;have ap:Hid (Below w2.heap.size w2 wh):=Bel.after ae.out hB;have M:Hid (∀(i:Nat) (a:jy),i<h→p.arms[i]?=some a→xS F a.v a.fr.toNat (Qe F a.fr.toNat)):=hok;have h0:=Bel.keeps hB G0.out;have h2:=Bel.keeps hB Z2.out;clear hB hok;by_cases ay:(h:Int)<(m:Int)
          ·obtain⟨y,hy⟩:∃y,p.arms[h]?=some y:=⟨_,List.getElem?_eq_getElem (by have:=HM.out;omega)⟩;obtain⟨ab,aoff,rfl,r1,r2⟩:=yh (ag.out.keep (fun b o z hb h=>h.keep (kM.jK ac.out 0) hb)) hy;have HY:Hid (p.arms[h]?=some y):=hy;obtain⟨f,hf,hfn⟩:∃f:Nat,y.fr=(f:Int)∧f<n:=by
            have h3:=(am.out.2.2 h y (by have:=HM.out;omega) hy).1;simp[jl] at h3;exact⟨y.fr.toNat,by omega,by have:=HN.out;omega⟩
           have aw:(f:Int)<(n:Int):=by omega
           have ah:Hid (y.fr.toNat=f):=by show _=_;omega
           rw[hf] at r1;obtain⟨xv,HXV⟩:∃z,Hid (y.v=z):=⟨_,rfl⟩;rw[HXV.out] at r2;obtain⟨x2,J⟩:∃x,F.blocks[f]?=some x:=⟨_,List.getElem?_eq_getElem (by have:=HN.out;omega)⟩;obtain⟨ll,HLL⟩:∃z,Hid (x2.list.length=z):=⟨_,rfl⟩;have ai:Hid (Qe F f=(ll:Int)):=by show _=_;rw[←HLL.out];simp[Qe,J]
           have au:Hid (F.blocks[f]?=some x2):=J;clear hy hf J;go_wp2_with fail
           obtain⟨w6,hw6⟩:∃W,wh.alloc (.cells #[vi (f:Int),vi xv] 143)=W:=⟨_,rfl⟩;have y0:w6.cell? (Z wh.heap.size 0)=some (vi (f:Int)):=by rw[←hw6];simp[go_sem]
           have y1:w6.cell? (Z wh.heap.size 1)=some (vi xv):=by rw[←hw6];simp[go_sem]
           have af:Hid (Below wh.heap.size wh w6):=by show Below _ _ _;rw[←hw6];exact Bel.alloc _ _
           rw[hw6];clear hw6 h0 h2 r1 r2;obtain⟨YB,hYB⟩:∃x,wh.heap.size=x:=⟨_,rfl⟩;rw[hYB] at y0 y1;rw[hYB];clear hYB;have K:Hid (Below w2.heap.size w2 w6):=Bel.after ap.out af.out;have c0:=Bel.keeps K.out C0.out;have c1:=Bel.keeps K.out C1.out;have FU:Hid (kJ w6 (.agg #[sq b off n bcap,vi vals]) F):=F2.out.later K.out;have DU:Hid (OwnRows w6 lo dg n us (KL F)):=D2.out.keep K.out;obtain⟨b',off',e',hat⟩:=FU.out.yg HN.out hfn au.out;cases e'
           obtain⟨aH,lv2,_,l1,_,_,_,_,_,hls2⟩:=hat;obtain⟨ao,lcap2,rfl,hlm2,_⟩:=hls2;rw[HLL.out] at l1 hlm2;by_cases hK:xS F xv f (ll:Int)
           ·have HK:Hid (xS F xv f (ll:Int)):=hK;clear hK
            go_region_held3 (fun w'=>w'.cell? (Z FB 0)=some (sq b off n bcap)∧w'.cell? (Z FB 1)=some (vi vals)∧w'.cell? (Z YB 0)=some (vi (f:Int))∧w'.cell? (Z YB 1)=some (vi xv)∧w'.cell? (Z b (off+f*6+1))=some (.slice ao ll lcap2)) (first | exact⟨Bel.keeps B5.out c0,Bel.keeps B5.out c1,Bel.keeps B5.out y0,Bel.keeps B5.out y1,Bel.keeps B5.out l1⟩ | go_keep) (first | (go_at_call 133;refine(yo _ F dg n us lo xv f (ll:Int) _ (FU.out.later ((Below.refl _ _).drew)) HS.out HN.out (DU.out.keep ((Below.refl _ _).drew)) hfn).mono ?_;rintro e w5 ⟨t,rfl,ht,hb5⟩;have et:=ht.2 HK.out;subst et;have B5:Hid (Below w6.heap.size w6 w5):=Bel.after ((Below.refl _ _).drew) hb5;clear ht hb5))
            simp only[Exit.then]
            go_at_K
            go_wp2_with fail
            go_roundw
            case rel=>
             refine⟨h+1,by omega,by go_num,?_,fun i z hi hz=>?_⟩
             ·exact Bel.after ac.out (Bel.after af.out B5.out)
             ·by_cases e:i=h
              ·subst e;have e2:=HY.out.symm.trans hz;cases e2
               rw[ah.out,HXV.out,ai.out];exact HK.out
              ·exact M.out i z (by omega) hz
            case measure=>simp[intOf];omega
           ·have HK:Hid (¬xS F xv f (ll:Int)):=hK;clear hK
            go_region_held3 (fun w'=>w'.cell? (Z FB 0)=some (sq b off n bcap)∧w'.cell? (Z FB 1)=some (vi vals)∧w'.cell? (Z YB 0)=some (vi (f:Int))∧w'.cell? (Z YB 1)=some (vi xv)∧w'.cell? (Z b (off+f*6+1))=some (.slice ao ll lcap2)) (first | exact⟨Bel.keeps B5.out c0,Bel.keeps B5.out c1,Bel.keeps B5.out y0,Bel.keeps B5.out y1,Bel.keeps B5.out l1⟩ | go_keep) (first | (go_at_call 133;refine(yo _ F dg n us lo xv f (ll:Int) _ (FU.out.later ((Below.refl _ _).drew)) HS.out HN.out (DU.out.keep ((Below.refl _ _).drew)) hfn).mono ?_;rintro e w5 ⟨t,rfl,ht,hb5⟩;have et:=Jj ht HK.out;subst et;have B5:Hid (Below w6.heap.size w6 w5):=Bel.after ((Below.refl _ _).drew) hb5;clear ht hb5))
            simp only[Exit.then]
            go_at_K
            go_wp2_with fail
            go_ret;refine⟨false,rfl,⟨fun h=>(by cases h),fun h=>absurd ?_ HK.out⟩,B2.out.trans ((Bel.after K.out B5.out).mono (by have:=B2.out.size;omega))⟩;have h2:=(h k x HX.out).2.2 p (List.mem_of_getElem? HP.out) y (List.mem_of_getElem? HY.out);rw[ah.out,HXV.out,ai.out] at h2;exact h2
          ·go_wp2_with fail
           go_roundw
           case rel=>
            refine⟨g+1,by omega,by go_num,Bel.after ar.out ac.out,fun i z hi hz=>?_⟩;by_cases e:i=g
            ·subst e;have e2:=HP.out.symm.trans hz;cases e2
             intro a ha;obtain⟨i,hi2⟩:=List.getElem?_of_mem ha;exact M.out i a (by have:=(List.getElem?_eq_some_iff.1 hi2).1;have:=HM.out;omega) hi2
            ·exact L.out i z (by omega) hz
           case measure=>simp[intOf];omega
        ·go_wp2_with fail
         go_roundw
         case rel=>
          refine⟨k+1,by omega,by go_num,ae.out,fun b2 x2 hb J=>?_⟩;by_cases e:b2=k
          ·subst e;have e2:=HX.out.symm.trans J;cases e2
           refine⟨HI.out,HT.out,fun p hp=>?_⟩;obtain⟨i,hi2⟩:=List.getElem?_of_mem hp;exact L.out i p (by have:=(List.getElem?_eq_some_iff.1 hi2).1;have:=HNP.out;omega) hi2
          ·exact ak.out b2 x2 (by omega) J
         case measure=>simp[intOf];omega
  ·go_wp2_with fail
   go_ret;refine⟨true,rfl,⟨fun _ b x hx=>ak.out b x (by have:=(List.getElem?_eq_some_iff.1 hx).1;have:=HN.out;omega) hx,fun _=>rfl⟩,B2.out.trans (HB.out.mono (by have:=B2.out.size;omega))⟩
theorem aa7 {S:Nat→List Int}:∀(f b:Nat) (st:Way),b∉st.1→st.2.Nodup→(∀x∈st.2,0≤x∧x.toNat∈st.1) →
  (leave S f b st).2.Nodup∧(∀x∈(leave S f b st).2,0≤x∧x.toNat∈(leave S f b st).1)∧(∀x∈(leave S f b st).2,x∈st.2∨x.toNat∉st.1)
 | 0,_,st,_,h1,h2=>⟨h1,h2,fun x hx=>.inl hx⟩
 | f+1,b,st,hb,h1,h2=>by
  have hf:∀(l:List Int) (s0:Way),(∀x∈b::st.1,x∈s0.1)→s0.2.Nodup→(∀x∈s0.2,0≤x∧x.toNat∈s0.1)→(∀x∈s0.2,x∈st.2∨x.toNat∉b::st.1) →
    (l.foldl (kZ (leave S f)) s0).2.Nodup∧(∀x∈(l.foldl (kZ (leave S f)) s0).2,0≤x∧x.toNat∈(l.foldl (kZ (leave S f)) s0).1)∧(∀x∈(l.foldl (kZ (leave S f)) s0).2,x∈st.2∨x.toNat∉b::st.1):=by
   intro l;induction l with
   | nil=>exact fun s0 _ a1 a2 a3=>⟨a1,a2,a3⟩
   | cons y l ih=>
    intro s0 r a1 a2 a3;by_cases t:y.toNat∈s0.1
    ·have e:(y::l).foldl (kZ (leave S f)) s0=l.foldl (kZ (leave S f)) s0:=by rw[List.foldl_cons,QC t]
     rw[e];exact ih s0 r a1 a2 a3
    ·have e:(y::l).foldl (kZ (leave S f)) s0=l.foldl (kZ (leave S f)) (leave S f y.toNat s0):=by rw[List.foldl_cons,Ka t]
     rw[e];obtain⟨c1,c2,c3⟩:=aa7 f y.toNat s0 t a1 a2;refine ih _ (fun x hx=>zb S f _ _ x (r x hx)) c1 c2 (fun x hx=>?_);rcases c3 x hx with h | h
     ·exact a3 x h
     ·exact .inr (fun hm=>h (r _ hm))
  obtain⟨k1,k2,k3⟩:=hf (S b) (b::st.1,st.2) (fun x hx=>hx) h1 (fun x hx=>⟨(h2 x hx).1,List.mem_cons_of_mem _ (h2 x hx).2⟩) (fun x hx=>.inl hx);have r:∀x∈b::st.1,x∈(zv S f b st (S b)).1:=agE S f b st (S b);rw[Kz];refine⟨?_,fun x hx=>?_,fun x hx=>?_⟩
  ·refine List.nodup_append.2 ⟨k1,by simp,?_⟩;intro x hx y hy;simp at hy;subst hy;rintro rfl;rcases k3 _ hx with h | h
   ·exact hb (by simpa using (h2 _ h).2)
   ·exact h (by simp)
  ·rcases List.mem_append.1 hx with hx | hx
   ·exact k2 x hx
   ·simp at hx;subst hx;exact⟨by omega,by simpa using r b (by simp)⟩
  ·rcases List.mem_append.1 hx with hx | hx
   ·rcases k3 x hx with h | h
    ·exact .inl h
    ·exact .inr (fun hm=>h (List.mem_cons_of_mem _ hm))
   ·simp at hx;subst hx;exact .inr (by simpa using hb)
theorem way_once (F:FnD):(qP F).2.Nodup∧∀x∈(qP F).2,0≤x:=by
 obtain⟨h1,h2,_⟩:=aa7 (S:=succsN F) F.blocks.length 0 ([],[]) (by simp) List.nodup_nil (by simp);exact⟨h1,fun x hx=>(h2 x hx).1⟩
end Go.Proofs.YtkbhbekfniadhaaGreat
namespace Go.Proofs.YtkbhbekfniadhaaGreat
open Go.ChangeShapes Go.WideShapes Go.ChangeAt Go.RowKit Go.Shelf
set_option linter.unusedVariables false
theorem jV.cells {w:World}{oa:Option Addr}{n ocap:Nat}{o:List Int}(h:jV w (.slice oa n ocap) o):∀wr,Below w.heap.size w wr→∀k,k<n→∃b off,oa=some (Z b off)∧wr.cell? (Z b (off+k))=some (vi (o.getD k 0)):=by
 intro wr hb k hk;obtain⟨a,cap,e,_,hc⟩:=h.keep hb;simp at e;obtain⟨rfl,rfl,rfl⟩:=e;obtain⟨b,off,rfl,hd⟩:=hc (by omega);exact⟨b,off,rfl,hd k hk⟩
theorem Jk {α:Type}[DecidableEq α]:∀(l m:List α),l.Nodup→(∀x∈l,x∈m)→l.length≤m.length
 | [],_,_,_=>Nat.zero_le _
 | x::l,m,h,hs=>by
  have hx:x∈m:=hs x (by simp);obtain⟨h1,h2⟩:=List.nodup_cons.1 h;have h3:=Jk l (m.erase x) h2 (fun y hy=>(List.mem_erase_of_ne (a:=y) (b:=x) (by rintro rfl;exact h1 hy)).2 (hs y (by simp[hy])));rw[List.length_erase_of_mem hx] at h3;have h4:0<m.length:=List.length_pos_of_mem hx;simp;omega
def upto (n:Nat):List Int:=(List.range n).map (fun x:Nat=>(x:Int))
theorem aeF (n:Nat):(upto n).length=n:=by simp[upto]
theorem abE {n:Nat}{x:Int}:x∈upto n↔0≤x∧x<n:=by
 unfold upto;rw[List.mem_map];constructor
 ·rintro⟨a,h,rfl⟩;rw[List.mem_range] at h;omega
 ·rintro⟨h0,h1⟩;exact⟨x.toNat,by rw[List.mem_range];omega,by omega⟩
theorem agv (n:Nat):(upto n).Nodup:=by
 unfold upto List.Nodup;rw[List.pairwise_map];exact List.nodup_range.imp (fun h e=>h (by omega))
theorem Y6 {F:FnD}(hS:jm F):(qP F).2.length=F.blocks.length↔qB F:=by
 obtain⟨h1,h2⟩:=way_once F;have h3:=(Y9 hS).1;have h4:∀x∈(qP F).2,x∈upto F.blocks.length:=by
  intro x hx;have h0:=h2 x hx;have hw:x.toNat∈(qP F).1:=(Xx F x.toNat).2 (by rw[show(x.toNat:Int)=x by omega];exact hx);have:=way_lt hS hw;exact abE.2 ⟨h0,by omega⟩
 constructor
 ·intro he b hb;rw[Xx];refine Classical.byContradiction fun hn=>?_
  have h5:=Jk ((b:Int)::(qP F).2) (upto F.blocks.length) (List.nodup_cons.2 ⟨hn,h1⟩) (by
   intro x hx;rcases List.mem_cons.1 hx with rfl|hx
   ·exact abE.2 ⟨by omega,by omega⟩
   ·exact h4 x hx)
  rw[aeF] at h5;simp at h5;omega
 ·intro ha
  have h5:=Jk (upto F.blocks.length) (qP F).2 (agv _) (by
   intro x hx;obtain⟨h0,h6⟩:=abE.1 hx;have:=(Xx F x.toNat).1 (ha x.toNat (by omega));rw[show(x.toNat:Int)=x by omega] at this
   exact this)
  rw[aeF] at h5;omega
theorem check_1 {F:FnD}(h:¬jm F∨JU F):kF F=1:=by unfold kF;rw[if_pos h]
theorem check_2 {F:FnD}(h1:¬(¬jm F∨JU F))(h2:¬qB F):kF F=2:=by unfold kF;rw[if_neg h1,if_pos h2]
theorem agw {F:FnD}(h1:¬(¬jm F∨JU F))(h2:qB F)(h3:Jo F):kF F=3:=by unfold kF;rw[if_neg h1,if_neg (fun h=>h h2),if_pos h3]
theorem check_4 {F:FnD}(h1:¬(¬jm F∨JU F))(h2:qB F)(h3:¬Jo F)(h4:¬Ke F):kF F=4:=by unfold kF;rw[if_neg h1,if_neg (fun h=>h h2),if_neg h3,if_pos h4]
theorem check_5 {F:FnD}(h1:¬(¬jm F∨JU F))(h2:qB F)(h3:¬Jo F)(h4:Ke F)(h5:¬yR F):kF F=5:=by unfold kF;rw[if_neg h1,if_neg (fun h=>h h2),if_neg h3,if_neg (fun h=>h h4),if_pos h5]
theorem check_6 {F:FnD}(h1:¬(¬jm F∨JU F))(h2:qB F)(h3:¬Jo F)(h4:Ke F)(h5:yR F)(h6:¬QD F):kF F=6:=by unfold kF;rw[if_neg h1,if_neg (fun h=>h h2),if_neg h3,if_neg (fun h=>h h4),if_neg (fun h=>h h5),if_pos h6]
theorem check_0 {F:FnD}(h1:¬(¬jm F∨JU F))(h2:qB F)(h3:¬Jo F)(h4:Ke F)(h5:yR F)(h6:QD F):kF F=0:=by unfold kF;rw[if_neg h1,if_neg (fun h=>h h2),if_neg h3,if_neg (fun h=>h h4),if_neg (fun h=>h h5),if_neg (fun h=>h h6)]
theorem QA {t:Bool}{p:Prop}(h:t=true↔p)(hp:p):t=true:=h.2 hp
theorem aa8 (v:Value)(F:FnD)(w:World)(hF:kJ w v F) :
  Calls Tryz.prog 101 #[v] w fun e w'=>e=.returned (vi (kF F))∧Below w.heap.size w w':=by
 have HF:Hid (kJ w v F):=hF;obtain⟨c,HC⟩:∃c,Hid (kF F=c):=⟨_,rfl⟩;rw[HC.out];obtain⟨n,HN⟩:∃n,Hid (F.blocks.length=n):=⟨_,rfl⟩;obtain⟨vals,HV⟩:∃x,Hid (F.values=x):=⟨_,rfl⟩;obtain⟨ba,bcap,rfl⟩:=hF.out HN.out HV.out;clear hF;go_enter Tryz.func101,Tryz.ntmps101
 go_wp2_with fail
 obtain⟨w1,hw1⟩:∃W,w.alloc (.cells #[.slice ba n bcap,vi vals] 26)=W:=⟨_,rfl⟩;have C0:Hid (w1.cell? (Z w.heap.size 0)=some (.slice ba n bcap)):=by show _=_;rw[←hw1];simp[go_sem]
 have C1:Hid (w1.cell? (Z w.heap.size 1)=some (vi vals)):=by show _=_;rw[←hw1];simp[go_sem]
 have B1:Hid (Below w.heap.size w w1):=by show Below _ _ _;rw[←hw1];exact Bel.alloc _ _
 have F1:Hid (kJ w1 (.agg #[.slice ba n bcap,vi vals]) F):=HF.out.later B1.out;rw[hw1];clear hw1;refine(Ky _ F _ F1.out).mono ?_;rintro e w2 ⟨t,rfl,ht,b2⟩;have B2:Hid (Below w1.heap.size w1 w2):=b2;have c0:=Bel.keeps b2 C0.out;have c1:=Bel.keeps b2 C1.out;clear b2;by_cases hS:jm F
 ·have HS:Hid (jm F):=hS;have et:=QA ht hS;subst et;clear ht hS;go_wp2_with fail
  refine(acz _ F _ (F1.out.later B2.out) HS.out).mono ?_;rintro e w3 ⟨t,rfl,ht,b3⟩;have B3:Hid (Below w1.heap.size w1 w3):=Bel.after B2.out b3;clear b3 c0 c1;have c0:=Bel.keeps B3.out C0.out;have c1:=Bel.keeps B3.out C1.out;by_cases G:JU F
  ·have et:=QA ht G;subst et;have ec:c=1:=by rw[←HC.out];exact check_1 (.inr G)
   subst ec;clear ht G;go_wp2_with fail
   go_ret;exact⟨rfl,B1.out.trans (B3.out.mono (by have:=B1.out.size;omega))⟩
  ·have et:=Jj ht G;subst et;have H1:Hid (¬(¬jm F∨JU F)):=fun h=>h.elim (fun h=>h HS.out) G
   clear ht G;go_wp2_with fail
   have O:1≤n:=by have:=HS.out.1;have:=HN.out;omega
   have U:n≤16:=by have:=HS.out.2.1;have:=HN.out;omega
   by_cases hA:qB F
   ·have HA:Hid (qB F):=hA;have HL:Hid ((qP F).2.reverse.length=n):=by show _=_;rw[List.length_reverse,(Y6 HS.out).2 hA];exact HN.out
    clear hA;have V:((n:Int) != (n:Int))=false:=by simp
    go_region_held3 (fun w'=>w'.cell? (Z w.heap.size 0)=some (.slice ba n bcap)∧w'.cell? (Z w.heap.size 1)=some (vi vals)) (first | exact⟨Bel.keeps B4.out c0,Bel.keeps B4.out c1⟩ | go_keep) (first | (go_at_call 117;refine(Z8 _ F _ (F1.out.later (B3.out.drew)) HS.out).mono ?_;rintro e w4 ⟨ov,rfl,ho,hb4⟩;have B4:Hid (Below w3.heap.size w3 w4):=Bel.after ((Below.refl _ _).drew) hb4;obtain⟨oa,ocap,rfl,hol,_⟩:=ho.at;rw[HL.out] at hol ⊢;clear hb4 ho))
    simp only[Exit.then]
    go_at_K
    obtain⟨x,hx⟩:∃x,F.blocks[0]?=some x:=⟨_,List.getElem?_eq_getElem (by have:=HN.out;omega)⟩;have r:Hid (Below w1.heap.size w1 w4):=Bel.after B3.out B4.out;clear c0 c1;have c0:=Bel.keeps r.out C0.out;have c1:=Bel.keeps r.out C1.out;obtain⟨b,off,rfl,hat⟩:=(F1.out.later r.out).yg HN.out O hx;have HX:Hid (F.blocks[0]?=some x):=hx;obtain⟨pv,lv,b0,_,_,_,_,_,hps,_⟩:=hat;obtain⟨np,HNP⟩:∃q,Hid (x.phis.length=q):=⟨_,rfl⟩;obtain⟨pa,pcap,rfl,hpm,_⟩:=hps;rw[HNP.out] at b0 hpm;simp only[Nat.zero_mul,Nat.add_zero] at b0;have ab:(0:Int)<(n:Int):=by omega
    clear hx;by_cases hp:(0:Int)<(np:Int)
    ·have ec:c=3:=by
      rw[←HC.out];exact agw H1.out HA.out (.inl ⟨x,HX.out,by have:=HNP.out;omega⟩)
     subst ec;have ae:(np:Int) > 0:=hp;go_wp2_with fail
     go_ret;exact⟨rfl,B1.out.trans (r.out.mono (by have:=B1.out.size;omega))⟩
    ·go_wp2_with fail
     refine(zj _ F 0 _ (F1.out.later r.out) (by have:=HN.out;omega)).mono ?_;rintro e w5 ⟨qv,rfl,hq,b5⟩;obtain⟨ql,HQL⟩:∃q,Hid ((yf F 0).length=q):=⟨_,rfl⟩;have H:Hid (Below w1.heap.size w1 w5):=Bel.after r.out b5;obtain⟨qa,qcap,rfl,hql,_⟩:=hq.at
     rw[HQL.out] at hql;rw[HQL.out];clear hq b5 b0;by_cases af:(0:Int)<(ql:Int)
     ·have ec:c=3:=by
       rw[←HC.out];exact agw H1.out HA.out (.inr (by have:=HQL.out;omega))
      subst ec;go_wp2_with fail
      go_ret;exact⟨rfl,B1.out.trans (H.out.mono (by have:=B1.out.size;omega))⟩
     ·have H3:Hid (¬Jo F):=by
       rintro(⟨y,hy,hy2⟩ | h)
       ·have e:=HX.out.symm.trans hy;cases e
        have:=HNP.out;omega
       ·have:=HQL.out;omega
      clear c0 c1;have c0:=Bel.keeps H.out C0.out;have c1:=Bel.keeps H.out C1.out;go_wp2_with fail
      refine(aff _ F _ (F1.out.later H.out) HS.out).mono ?_;rintro e w6 ⟨t,rfl,ht,b6⟩;have I:Hid (Below w1.heap.size w1 w6):=Bel.after H.out b6;clear b6 c0 c1;have c0:=Bel.keeps I.out C0.out;have c1:=Bel.keeps I.out C1.out;by_cases B:Ke F
      ·have et:=QA ht B;subst et;have H4:Hid (Ke F):=B;clear ht B;go_wp2_with fail
       obtain⟨vn,hvn⟩:∃vn:Nat,(vn:Int)=F.values:=⟨F.values.toNat,by have:=HS.out.2.2.1;omega⟩;have M:Hid ((vn:Int)=F.values):=hvn;have aa:vn≤80:=by have:=HS.out.2.2.2.1;omega
       refine(afh _ F vn _ (F1.out.later I.out) HS.out hvn).mono ?_;rintro e w7 ⟨mv,rfl,hm,b7⟩;have J:Hid (Below w1.heap.size w1 w7):=Bel.after I.out b7;have HM:Hid (jV w7 mv (KI vn (zM (qG F)))):=hm.at
       obtain⟨ma,mcap,rfl,hml,_⟩:=hm.at
       rw[zW] at hml HM;rw[zW];clear hm b7 hvn;clear c0 c1;have HO:Hid (yR F↔∀v:Nat,v<vn→xo (v:Int) (qG F)≤1):=acH (fun m hm=>by rw[M.out];exact makes_in HS.out m hm);go_wp2_with fail
       go_loopw [4] (fun i wr=>∃k:Nat,k≤vn∧i=vi (k:Int)∧wr=w7∧∀v:Nat,v<k→xo (v:Int) (qG F)≤1) (fun i _=>vn-(intOf i).toNat)
       case atStart=>exact⟨0,Nat.zero_le _,rfl,rfl,fun v hv=>absurd hv (by omega)⟩
       case round=>
        obtain⟨k,hk,rfl,hw,hok⟩:=hrel;have hw:=hw.symm;subst hw;have K:Hid (∀v:Nat,v<k→xo (v:Int) (qG F)≤1):=hok;clear hok;by_cases ac:(k:Int)<(vn:Int)
        ·obtain⟨mb,moff,rfl,mc⟩:=jV.cells HM.out _ (Below.refl _ _) k (by omega);rw[aeD _ _ (by omega)] at mc;obtain⟨q,HQ⟩:∃q,Hid (zM (qG F) k=q):=⟨_,rfl⟩;rw[HQ.out] at mc;by_cases X:(1:Int)<q
         ·have ec:c=5:=by
           rw[←HC.out];refine check_5 H1.out HA.out H3.out H4.out (fun h=>?_);have h2:=HO.out.1 h k (by omega);have h3:=HQ.out;unfold zM at h3;omega
          subst ec;have ag:q > 1:=X;go_wp2_with fail
          go_ret;exact⟨rfl,B1.out.trans (J.out.mono (by have:=B1.out.size;omega))⟩
         ·go_wp2_with fail
          go_roundw
          case rel=>
           refine⟨k+1,by omega,by go_num,(by first | trivial|rfl),fun v hv=>?_⟩;by_cases e:v=k
           ·subst e;have h3:=HQ.out;unfold zM at h3;omega
           ·exact K.out v (by omega)
          case measure=>simp[intOf];omega
        ·have H5:Hid (yR F):=HO.out.2 (fun v hv=>K.out v (by omega));clear K;have c0:=Bel.keeps J.out C0.out;have c1:=Bel.keeps J.out C1.out;go_wp2_with fail
         refine(adF _ F _ (F1.out.later J.out) HS.out).mono ?_;rintro e w8 ⟨t,rfl,ht,b8⟩;have L:Hid (Below w1.heap.size w1 w8):=Bel.after J.out b8;clear b8 c0 c1;by_cases hT:QD F
         ·have et:=QA ht hT;subst et;have ec:c=0:=by rw[←HC.out];exact check_0 H1.out HA.out H3.out H4.out H5.out hT
          subst ec;clear ht hT;go_wp2_with fail
          go_ret;exact⟨rfl,B1.out.trans (L.out.mono (by have:=B1.out.size;omega))⟩
         ·have et:=Jj ht hT;subst et;have ec:c=6:=by rw[←HC.out];exact check_6 H1.out HA.out H3.out H4.out H5.out hT
          subst ec;clear ht hT;go_wp2_with fail
          go_ret;exact⟨rfl,B1.out.trans (L.out.mono (by have:=B1.out.size;omega))⟩
      ·have et:=Jj ht B;subst et;have ec:c=4:=by rw[←HC.out];exact check_4 H1.out HA.out H3.out B
       subst ec;clear ht B;go_wp2_with fail
       go_ret;exact⟨rfl,B1.out.trans (I.out.mono (by have:=B1.out.size;omega))⟩
   ·have ec:c=2:=by rw[←HC.out];exact check_2 H1.out hA
    subst ec;obtain⟨ln,HL⟩:∃q,Hid ((qP F).2.reverse.length=q):=⟨_,rfl⟩;have ad:¬ln=n:=by
     rw[←HL.out,←HN.out,List.length_reverse];exact fun h=>hA ((Y6 HS.out).1 h)
    clear hA;have V:((ln:Int) != (n:Int))=true:=by simp;omega
    go_region_held3 (fun w'=>w'.cell? (Z w.heap.size 0)=some (.slice ba n bcap)∧w'.cell? (Z w.heap.size 1)=some (vi vals)) (first | exact⟨Bel.keeps B4.out c0,Bel.keeps B4.out c1⟩ | go_keep) (first | (go_at_call 117;refine(Z8 _ F _ (F1.out.later (B3.out.drew)) HS.out).mono ?_;rintro e w4 ⟨ov,rfl,ho,hb4⟩;have B4:Hid (Below w3.heap.size w3 w4):=Bel.after ((Below.refl _ _).drew) hb4;obtain⟨oa,ocap,rfl,hol,_⟩:=ho.at;rw[HL.out] at hol ⊢;clear hb4 ho))
    simp only[Exit.then]
    go_at_K
    go_wp2_with fail
    go_ret;exact⟨rfl,B1.out.trans ((Bel.after B3.out B4.out).mono (by have:=B1.out.size;omega))⟩
 ·have et:=Jj ht hS;subst et;have ec:c=1:=by rw[←HC.out];exact check_1 (.inl hS)
  subst ec;clear ht hS;go_wp2_with fail
  go_ret;exact⟨rfl,B1.out.trans (B2.out.mono (by have:=B1.out.size;omega))⟩
end Go.Proofs.YtkbhbekfniadhaaGreat
