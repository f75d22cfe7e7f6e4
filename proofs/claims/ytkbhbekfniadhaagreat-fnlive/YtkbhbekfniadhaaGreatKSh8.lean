/- The program's Succs: the blocks that follow, for every program and every number. The shape of a program, part 10: the model's ShapeOk tells FnShape. The model's Succs: the blocks that follow, for every program and every number. A program's blocks and lists in memory, one at a time. A region that draws its order, one operation of which waits for all others: what others read need not hold behind that one. Regions that draw their order, taken one operation at a time. A program without phis: the program's PlainOk and the model's tell FnPlain. -/
import Derived.Test.YtkbhbekfniadhaaGreatKSh1
import Derived.Test.YtkbhbekfniadhaaGreatKSh5
import Derived.Maps.AppendAt
import Derived.Test.YtkbhbekfniadhaaGreatKIns
import Derived.Test.YtkbhbekfniadhaaGreatKTo
import Derived.OrdersHeld
import Derived.Deep.RegionHeld3
set_option maxRecDepth 100000
set_option maxHeartbeats 16000000
namespace Go.Proofs.YtkbhbekfniadhaaGreat
open Go.ChangeShapes Go.WideShapes Go.ChangeAt Go.RowKit Go.Shelf
set_option linter.unusedVariables false
attribute [local go_sem] Oper.semAt_some
theorem y7 : (Tryz.prog.info? 3).map (fun i=>(i.zero,i.size,i.bytes))=some (some (vi 0),1,8):=by kernel_rfl
theorem kJ.end {w:World}{ba:Option Addr}{n bcap:Nat}{vals:Int}{F:FnD}(h:kJ w (.agg #[.slice ba n bcap,vi vals]) F){j:Nat}(hj:j<n) :
  ∃bb off x,ba=some (Z bb off)∧F.blocks[j]?=some x∧w.cell? (Z bb (off+j*6+2))=some (vi x.term.k)∧w.cell? (Z bb (off+j*6+3))=some (vi x.term.a)∧w.cell? (Z bb (off+j*6+4))=some (vi x.term.t)∧w.cell? (Z bb (off+j*6+5))=some (vi x.term.e):=by
 obtain⟨bv,hv,a,cap,rfl,hm,hc⟩:=h;simp at hv;obtain⟨⟨rfl,rfl,rfl⟩,_⟩:=hv;obtain⟨bb,off,rfl,_,hd⟩:=hc (by omega);have hx:F.blocks[j]?=some F.blocks[j]:=List.getElem?_eq_getElem hj;obtain⟨pv,lv,_,_,h1,h2,h3,h4,_⟩:=hd j _ hx;exact⟨bb,off,_,rfl,hx,h1,h2,h3,h4⟩
theorem aiH (v:Value)(F:FnD)(b:Int)(w:World)(hF:kJ w v F) :
  Calls Tryz.prog 13 #[v,vi b] w fun e w'=>JS w (aic F b) e w':=by
 have HF:Hid (kJ w v F):=hF;obtain⟨bv,hv0,hb⟩:=hF;obtain⟨ba,bcap,hbv,_⟩:=hb;obtain⟨n,HN⟩:∃n,Hid (F.blocks.length=n):=⟨_,rfl⟩;obtain⟨vals,HV⟩:∃x,Hid (F.values=x):=⟨_,rfl⟩;rw[HN.out] at hbv;rw[HV.out,hbv] at hv0;clear hbv;subst hv0;refine(callsIn_wide (n:=3)).1 ?_;refine callsIn_of_wp_marks Tryz.func13 rfl trivial ?_ rfl;simp only[Tryz.ntmps13,List.size_toArray,List.length_cons,List.length_nil,Nat.reduceAdd,Nat.reduceSub,Array.replicate_succ,Array.replicate_zero,List.push_toArray,List.append_toArray,List.nil_append,List.cons_append]
 gi_wp2_with fail
 refine⟨trivial,?_⟩;refine(callsIn_wide.2 (adA _ F _ (HF.out.later (by repeat (first | exact Below.refl _ _ | apply Below.drew | refine Below.alloc ?_ (by simp <;> omega) _ | refine Below.setCell ?_ (by simp <;> omega) _))))).mono ?_;rintro e w1 ⟨s1,rfl,hs1,b1⟩;have S1:Hid (s1=true↔jm F):=hs1;have H:Below w.heap.size w w1:=Bel.after (by repeat (first | exact Below.refl _ _ | apply Below.drew | refine Below.alloc ?_ (by simp <;> omega) _ | refine Below.setCell ?_ (by simp <;> omega) _)) b1;have F1:Hid (kJ w1 (.agg #[.slice ba n bcap,vi vals]) F):=HF.out.later H;have c0:w1.cell? (Z w.heap.size 0)=some (.slice ba n bcap):=Bel.keeps b1 (by simp[go_sem]);have c1:w1.cell? (Z w.heap.size 1)=some (vi vals):=Bel.keeps b1 (by simp[go_sem]);have o1:ja w1 w.heap.size (sq (w.heap.size+1) 0 0 0) []:=by
  have h:=JT (w.alloc (.cells #[.slice ba n bcap,vi vals] 26));rw[World.size_alloc] at h;exact((h.keep (Bel.alloc _ _)).keep b1).low (by omega)
 have x1:Boxed w1 (w.heap.size+1+1) 30 (sq (w.heap.size+1) 0 0 0):=by
  have h:=Boxed.new ((w.alloc (.cells #[.slice ba n bcap,vi vals] 26)).alloc (.cells #[] 3)) 30 (sq (w.heap.size+1) 0 0 0);rw[World.size_alloc,World.size_alloc] at h;exact(b1.block _ h.lt).trans h
 have B:w.heap.size+3≤w1.heap.size:=by have h:=b1.size;simp at h;omega
 have xc:=x1.cell;clear b1 hs1;cases s1 with
 | false=>
  have U:¬jm F:=fun h=>by have:=S1.out.2 h;cases this
  gi_wp2
  refine⟨trivial,?_⟩
  gi_wp2
  refine⟨_,results_tmp rfl _ _ _,?_⟩;rw[aim (fun h=>U h.1)];exact⟨_,rfl,o1,H⟩
 | true=>
  have G:Hid (jm F):=S1.out.1 rfl
  gi_wp2_with fail
  refine⟨trivial,?_⟩;refine(callsIn_wide.2 (zk ba n bcap vals b _)).mono ?_;rintro e w2 ⟨rfl,b2⟩;have I:Below w.heap.size w w2:=Bel.after H b2;have F2:Hid (kJ w2 (.agg #[.slice ba n bcap,vi vals]) F):=F1.out.later b2;replace c0:=Bel.keeps b2 c0;replace c1:=Bel.keeps b2 c1;have o2:=o1.keep b2;have x2:Boxed w2 (w.heap.size+1+1) 30 (sq (w.heap.size+1) 0 0 0):=(b2.block _ x1.lt).trans x1;have V:w.heap.size+3≤w2.heap.size:=Nat.le_trans B b2.size;clear b2 o1 x1 xc H B;have xc:=x2.cell;cases hv:jl (n:Int) b with
  | false=>
   gi_wp2
   refine⟨_,results_tmp rfl _ _ _,?_⟩;have O:¬(0≤b∧b<(n:Int)):=fun h=>by rw[aab h.1 h.2] at hv;cases hv
   rw[aim (fun h=>O ⟨h.2.1,by have:=h.2.2;rw[HN.out] at this;exact this⟩)];exact⟨_,rfl,o2,I⟩
  | true=>
   obtain⟨X,hb1⟩:=Kt.1 hv;obtain⟨bn,rfl⟩:∃bn:Nat,b=(bn:Int):=⟨b.toNat,by omega⟩;obtain⟨bb,off,x,rfl,hx,t0,t1,t2,t3⟩:=F2.out.end (j:=bn) (by omega);have HX:Hid (aic F (bn:Int)=ahR x.term):=by
    rw[aid G.out (by omega) (by rw[HN.out];exact hb1)];exact adx (by simpa using hx)
   have hq:∀s∈ahR x.term,0≤s:=fun s hs=>(JJ G.out bn s (by rw[adx hx];exact hs)).1
   obtain⟨xp,xl,xk,xa,xt,xe⟩:=x;dsimp only at t0 t1 t2 t3 HX hq
   gi_wp2_with (refine⟨trivial,?_⟩;gi_at_call 44;refine(callsIn_wide.2 (acv _ _ _ _ _)).mono ?_;rintro e w' ⟨rfl,rfl⟩)
   obtain⟨W0,hW0⟩:∃W0,w2.alloc (.cells #[vi xk,vi xa,vi xt,vi xe] 41)=W0:=⟨_,rfl⟩;have hsz:W0.heap.size=w2.heap.size+1:=by rw[←hW0];simp
   have M:Below w.heap.size w W0:=by rw[←hW0];exact Bel.after I (Bel.alloc _ _)
   have x3:Boxed W0 (w.heap.size+1+1) 30 (sq (w.heap.size+1) 0 0 0):=by rw[←hW0];exact x2.alloc _
   have o3:ja W0 w.heap.size (sq (w.heap.size+1) 0 0 0) []:=by rw[←hW0];exact o2.keep (Bel.alloc _ _)
   have hT:Jh W0 w2.heap.size xk xa xt xe:=by rw[←hW0];exact Jh.new _ _ _ _ _
   rw[hW0];clear hW0 x2 o2 xc I;obtain⟨i0,hi,hz0,hz1,hz2⟩:=info_parts y7;refine wpIn_rangeFunc_ownG (α := {x:Int // True}) rfl (by omega) (gf:=67) (lb := #[.pointer (some (Z w2.heap.size 0))]) rfl trivial (enters_of Tryz.func67 (by kernel_rfl) rfl)
    (aay (fun _=>True) 2 (by omega) w2.heap.size xk xa xt xe (fun _ _=>trivial) W0 (by omega) hT) aip (aiC (by omega)) (Below.refl _ _) (fun _=>rfl)
    (fun pre W=>Jh W w2.heap.size xk xa xt xe∧(∃v,Boxed W (w.heap.size+1+1) 30 v∧W.ownsRow w.heap.size 3 1 v pre.length (pre.map (fun x=>vi x.1))∧True)∧Below w.heap.size w W)
    (fun _ _ _=>False)
    (OwnFrom.and (Own.from (Jh.own _ _ _ _ _) _) (OwnFrom.and (Own.from (holdsRow_own w.heap.size (w.heap.size+1+1) 30 3 1 (fun(pre:List {x:Int // True})=>pre.length) (fun pre=>pre.map (fun x=>vi x.1)) (fun _ _=>True)) _) (ownFrom_below (Nat.le_refl _) (by omega))))
    (fun _ _ _ _ _ hs _ _=>hs)
    ⟨hT,⟨_,x3,o3,trivial⟩,M⟩
    (fun x=>{ tmps := #[.agg #[sq bb off n bcap,vi vals],vi (bn:Int),.pointer (some (Z w.heap.size 0)),undef,.slice none 0 0,.pointer (some (Z (w.heap.size+1+1) 0)),vi x.1,sq (w.heap.size+1) 0 0 0,
     .agg #[sq bb off n bcap,vi vals],.bool true,.bool false,.bool false,.agg #[sq bb off n bcap,vi vals],vi (bn:Int),.bool true,.bool false,.bool false,undef,
     .pointer (some (Z w.heap.size 0)),sq bb off n bcap,vi (bn:Int),.pointer (some (Z bb (off+bn*6))),.pointer (some (Z bb (off+bn*6+2))),.agg #[vi xk,vi xa,vi xt,vi xe],
     .func (.func 67) #[] #[.pointer (some (Z w2.heap.size 0))],vi x.1,undef,undef,undef,undef,undef],defers := [] }) ?assign ?body ?done ?stop
   case assign=>
    intro l x W K hK
    gi_wp2
    exact hK
   case body=>
    rintro l pre x W ⟨hE,⟨v,hv,hrow,_⟩,hB⟩ hlt;have hc:=hv.cell;have ab:100≤maxLen:=by decide
    gi_wp2_with (gi_at_builtin;refine wpListIn_append_own _ rfl _ _ 30 rfl w.heap.size 3 i0 (vi 0) 1 8 Tryz.underlying30 hi hz0 hz1 hz2 rfl (by decide) _ _ _ rfl (hrow.alloc _) (Z W.heap.size 0) 1 1 [vi x.1] rfl rfl (cell_one_new _ _ _) (by simp[Value.oneCell']) (by omega) (by omega) (by have:=hB.size;simp;omega) ?_;intro v' w1 t r _;obtain⟨g',cap',rfl⟩:=ownsRow_succ t;obtain⟨L,hv2,hr2,hk2,hb2⟩:=hv.appended (by decide) hrow hB.size (by omega) t r;have aa:=L.cell;have hf1:=L.frozen)
    have J:aax w2.heap.size W (w1.setCell (Z (w.heap.size+1+1) 0) (sq g' 0 (pre.length+1) cap')):=by
     refine aip ?_ (aif w1 _ (by omega));exact(r.block w2.heap.size (by have:=hE.lt;simp;omega) (hE.not_row hrow)).trans (Below.heap_alloc W _ _ hE.lt)
    exact⟨hk2.from _,J,hE.kept J,⟨_,hv2,by simpa using hr2,trivial⟩,hB.trans hb2⟩
   case done=>
    rintro D ys W hD hS ⟨_,⟨v,hv,hrow,_⟩,hB⟩ hK;have hc:=hv.cell
    gi_wp2
    refine⟨by simp,.inl ⟨_,_,rfl,run_takeDeferred hK,?_⟩⟩;refine⟨_,results_tmp rfl _ _ _,_,rfl,?_,hB.trans (belowK_b (w:=w) (Nat.le_refl _) W D _ _ (by omega) hK rfl rfl)⟩;rw[HX.out];have e:ahR ⟨xk,xa,xt,xe⟩=ys.map (fun x=>x.1):=hS.symm;rw[e];have:=ownsRow_putObj hrow (.deferred none) hK rfl;simpa [ja] using this
   case stop=>
    rintro D c pre W _ _ h _;exact h.elim
end Go.Proofs.YtkbhbekfniadhaaGreat
namespace Go.Proofs.YtkbhbekfniadhaaGreat
open Go.ChangeShapes Go.WideShapes Go.ChangeAt Go.RowKit Go.Shelf
set_option linter.unusedVariables false
theorem Ky (v:Value)(F:FnD)(w:World)(hF:kJ w v F) :
  Calls Tryz.prog 47 #[v] w fun e w'=>zI w (jm F) e w':=by
 obtain⟨bv,rfl,hb⟩:=hF;obtain⟨ba,bcap,rfl,hbm,hbc⟩:=hb;obtain⟨n,HN⟩:∃n,Hid (F.blocks.length=n):=⟨_,rfl⟩;obtain⟨vals,HV⟩:∃n,Hid (F.values=n):=⟨_,rfl⟩;rw[HN.out] at hbm hbc ⊢;rw[HV.out];have HC:Hid (0<n→∃b off,ba=some (Z b off)∧0≤b∧∀i x,F.blocks[i]?=some x→qH 0 w b (off+i*6) x):=hbc;clear hbc;go_enter Tryz.func47,Tryz.ntmps47
 go_wp2_with fail
 refine(aci (n:Int) 1 16 _).mono ?_;rintro e w1 ⟨rfl,rfl⟩;cases hn:(decide ((1:Int)≤(n:Int)) && decide ((n:Int)≤16))
 ·go_wp2;go_ret;exact⟨false,rfl,qA (by intro hp;have h2:=hp.1;have h3:=hp.2.1;have h4:=HN.out;simp at hn;omega),Bel.alloc _ _⟩
 ·go_wp2_with fail
  refine(aci vals 0 80 _).mono ?_;rintro e w2 ⟨rfl,rfl⟩;cases M:(decide ((0:Int)≤vals) && decide (vals≤80))
  ·go_wp2;go_ret;exact⟨false,rfl,qA (by intro hp;have h2:=hp.2.2.1;have h3:=hp.2.2.2.1;have h4:=HV.out;simp at M;omega),Bel.alloc _ _⟩
  ·have K:1≤n∧n≤16:=by simp at hn;omega
   have ai:0≤vals∧vals≤80:=by simp at M;omega
   obtain⟨K,hn2⟩:=K;go_wp2;go_loopw [4] (fun i wr=>∃k:Nat,k≤n∧i=vi k∧(∀j p,j<k→F.blocks[j]?=some p→Kv (n:Int) vals p)∧Below (w.alloc (.cells #[.slice ba n bcap,vi vals] 26)).heap.size (w.alloc (.cells #[.slice ba n bcap,vi vals] 26)) wr) (fun i _=>n-(intOf i).toNat)
   case atStart=>exact⟨0,Nat.zero_le _,rfl,fun j x hj=>absurd hj (by omega),Below.refl _ _⟩
   case round=>
    obtain⟨wo,rfl⟩:∃wo:World,wo=wr:=⟨_,rfl⟩;obtain⟨k,hk,rfl,hok,hb3⟩:=hrel;have HK:Hid (∀j p,j<k→F.blocks[j]?=some p→Kv (n:Int) vals p):=hok;have H0:Hid (Below (w.alloc (.cells #[.slice ba n bcap,vi vals] 26)).heap.size (w.alloc (.cells #[.slice ba n bcap,vi vals] 26)) wo):=hb3;have H1:Hid (Below w.heap.size w wo):=Bel.after (Bel.alloc w _) hb3;have f0:=Bel.keeps hb3 (p:=(Z w.heap.size 0)) (v:=.slice ba n bcap) (by simp[go_sem]);have f1:=Bel.keeps hb3 (p:=(Z w.heap.size 1)) (v:=vi vals) (by simp[go_sem]);have ag:w.heap.size<wo.heap.size:=World.block_lt_of_cell? wo _ f0;clear hok hb3;by_cases ah:(k:Int)<(n:Int)
    ·obtain⟨b,off,rfl,_,hc1⟩:=HC.out (by omega);have h:k<F.blocks.length:=by have:=HN.out;omega
     obtain⟨x,HX⟩:∃x,Hid (F.blocks[k]?=some x):=⟨F.blocks[k],List.getElem?_eq_getElem h⟩;obtain⟨pv,lv,c0,c1,c2,c3,c4,c5,hpv,hlv⟩:=(hc1 k x HX.out).keep (kM.jK H1.out 0) (Nat.zero_le _);clear hc1 h;obtain⟨x0,x1,⟨x2,x3,x4,x5⟩⟩:=x;obtain⟨pa,pcap,rfl,hpm,hpc⟩:=hpv;obtain⟨la,lcap,rfl,hlm,hlc⟩:=hlv;obtain⟨pn,HPN⟩:∃pn,Hid (x0.length=pn):=⟨_,rfl⟩;obtain⟨ln,HLN⟩:∃ln,Hid (x1.length=ln):=⟨_,rfl⟩;rw[HPN.out] at hpm hpc c0;rw[HLN.out] at hlm hlc c1;have V:Hid (0<pn→∃b off,pa=some (Z b off)∧0≤b∧∀i x,x0[i]?=some x→yz 0 wo b (off+i*2) x):=hpc;have U:Hid (0<ln→∃b off,la=some (Z b off)∧0≤b∧∀i x,x1[i]?=some x→jU wo b (off+i*5) x):=hlc;clear hpc hlc;by_cases af:(24:Int)<(pn:Int)
     ·go_wp2;go_ret;exact⟨false,rfl,qA (by intro hp;have h5:=(hp.2.2.2.2 k _ HX.out).1;have h6:x0.length≤24:=h5;have:=HPN.out;omega),Bel.after H1.out (Bel.alloc _ _)⟩
     ·by_cases ac:(24:Int)<(ln:Int)
      ·go_wp2;go_ret;exact⟨false,rfl,qA (by intro hp;have h5:=(hp.2.2.2.2 k _ HX.out).2.1;have h6:x1.length≤24:=h5;have:=HLN.out;omega),Bel.after H1.out (Bel.alloc _ _)⟩
      ·go_wp2_with fail
       refine(aga (n:Int) vals x2 x3 x4 x5 (by omega) (by omega) _).mono ?_;rintro e w3 ⟨rfl,b3⟩;have H3:Hid (Below (wo.alloc (.cells #[.slice pa pn pcap,.slice la ln lcap,vi x2,vi x3,vi x4,vi x5] 43)).heap.size (wo.alloc (.cells #[.slice pa pn pcap,.slice la ln lcap,vi x2,vi x3,vi x4,vi x5] 43)) w3):=b3;have q0:=Bel.keeps b3 (p:=(Z wo.heap.size 0)) (v:=.slice pa pn pcap) (by simp[go_sem]);clear b3 c0 c1 c2 c3 c4 c5;cases L:jL (n:Int) vals x2 x3 x4 x5
       ·go_wp2;go_ret;exact⟨false,rfl,qA (by intro hp;have h5:=(hp.2.2.2.2 k _ HX.out).2.2.2.2;rw[HN.out,HV.out] at h5;have h6:jL (n:Int) vals x2 x3 x4 x5=true:=h5;rw[L] at h6;exact(nomatch h6)),Bel.after H1.out (Bel.after (Bel.alloc _ _) H3.out)⟩
       ·go_wp2;go_loopw [6] (fun i wr=>∃m:Nat,m≤pn∧i=vi m∧(∀j p,j<m→x0[j]?=some p→Ku (n:Int) vals p)∧Below (wo.alloc (.cells #[.slice pa pn pcap,.slice la ln lcap,vi x2,vi x3,vi x4,vi x5] 43)).heap.size (wo.alloc (.cells #[.slice pa pn pcap,.slice la ln lcap,vi x2,vi x3,vi x4,vi x5] 43)) wr) (fun i _=>pn-(intOf i).toNat)
        case atStart=>exact⟨0,Nat.zero_le _,rfl,fun j x hj=>absurd hj (by omega),H3.out⟩
        case round=>
         clear q0;obtain⟨m,hm,rfl,hok,hb4⟩:=hrel;have HM:Hid (∀j p,j<m→x0[j]?=some p→Ku (n:Int) vals p):=hok;have H4:Hid (Below (wo.alloc (.cells #[.slice pa pn pcap,.slice la ln lcap,vi x2,vi x3,vi x4,vi x5] 43)).heap.size (wo.alloc (.cells #[.slice pa pn pcap,.slice la ln lcap,vi x2,vi x3,vi x4,vi x5] 43)) wr):=hb4;have G:Hid (Below wo.heap.size wo wr):=Bel.after (Bel.alloc _ _) hb4;have q0:=Bel.keeps hb4 (p:=(Z wo.heap.size 0)) (v:=.slice pa pn pcap) (by simp[go_sem]);have q1:=Bel.keeps hb4 (p:=(Z wo.heap.size 1)) (v:=.slice la ln lcap) (by simp[go_sem]);have r1:=Bel.keeps G.out f1;clear hok hb4;by_cases ad:(m:Int)<(pn:Int)
         ·obtain⟨b',off',rfl,_,hc1⟩:=V.out (by omega);have h:m<x0.length:=by have:=HPN.out;omega
          obtain⟨y,HY⟩:∃y,Hid (x0[m]?=some y):=⟨x0[m],List.getElem?_eq_getElem h⟩;obtain⟨d0,sv,d1,hsv⟩:=(hc1 m y HY.out).keep (kM.jK G.out 0) (Nat.zero_le _);clear hc1 h q1;obtain⟨y0,y1⟩:=y;have aa:Hid (jz 0 2 qq wr sv y1):=hsv;obtain⟨sa,scap,rfl,_⟩:=hsv;go_wp2
          go_region_with (go_at_call 74;refine(ahQ y0 _ y1 (n:Int) vals _ (ZC aa.out (kM.jK (by first | exact(Below.refl _ _).drew | exact Below.refl _ _) 0)) (by omega) (by omega)).mono ?_;rintro e w5 ⟨bb,rfl,hbb,b5⟩;have t:Hid (bb=true↔Ku (n:Int) vals ⟨y0,y1⟩):=hbb;have r:Hid (Below wr.heap.size wr w5):=Bel.after (by first | exact(Below.refl _ _).drew | exact Below.refl _ _) b5;clear hbb b5)
          all_goals
           rename_i w5 bb t r
           cases bb
           ·go_wp2;go_ret;exact⟨false,rfl,qA (by intro hp;have h5:=(hp.2.2.2.2 k _ HX.out).2.2.1 m ⟨y0,y1⟩ HY.out;rw[HN.out,HV.out] at h5;have h6:=t.out.2 h5;exact(nomatch h6)),Bel.after H1.out (Bel.after G.out r.out)⟩
           ·go_wp2;go_roundw
            case rel=>
             refine⟨m+1,by omega,by go_num,fun j p hj hp=>?_,Bel.after H4.out r.out⟩;by_cases e:j=m
             ·subst e;have e2:=HY.out.symm.trans hp;simp only[Option.some.injEq] at e2;subst e2;exact t.out.1 rfl
             ·exact HM.out j p (by omega) hp
            case measure=>simp[intOf];omega
         ·have J:m=pn:=by omega
          have X:Hid (∀(j:Nat) p,x0[j]?=some p→Ku (n:Int) vals p):=fun j p hp=>HM.out j p (by have h1:=xP hp;have h2:=HPN.out;omega) hp
          clear J HM;go_wp2;go_loopw [7] (fun i wr=>∃m:Nat,m≤ln∧i=vi m∧(∀j p,j<m→x1[j]?=some p→qN vals p=true)∧Below (wo.alloc (.cells #[.slice pa pn pcap,.slice la ln lcap,vi x2,vi x3,vi x4,vi x5] 43)).heap.size (wo.alloc (.cells #[.slice pa pn pcap,.slice la ln lcap,vi x2,vi x3,vi x4,vi x5] 43)) wr) (fun i _=>ln-(intOf i).toNat)
          case atStart=>exact⟨0,Nat.zero_le _,rfl,fun j x hj=>absurd hj (by omega),H4.out⟩
          case round=>
           clear q0 q1 r1;obtain⟨m2,hm2,rfl,hok,hb5⟩:=hrel;have I:Hid (∀j p,j<m2→x1[j]?=some p→qN vals p=true):=hok;have H5:Hid (Below (wo.alloc (.cells #[.slice pa pn pcap,.slice la ln lcap,vi x2,vi x3,vi x4,vi x5] 43)).heap.size (wo.alloc (.cells #[.slice pa pn pcap,.slice la ln lcap,vi x2,vi x3,vi x4,vi x5] 43)) wr):=hb5;have B:Hid (Below wo.heap.size wo wr):=Bel.after (Bel.alloc _ _) hb5;have q1:=Bel.keeps hb5 (p:=(Z wo.heap.size 1)) (v:=.slice la ln lcap) (by simp[go_sem]);have r1:=Bel.keeps B.out f1;clear hok hb5;by_cases ae:(m2:Int)<(ln:Int)
           ·obtain⟨b',off',rfl,_,hc1⟩:=U.out (by omega);have h:m2<x1.length:=by have:=HLN.out;omega
            obtain⟨y,HY⟩:∃y,Hid (x1[m2]?=some y):=⟨x1[m2],List.getElem?_eq_getElem h⟩;obtain⟨d0,d1,d2,d3,d4⟩:=(hc1 m2 y HY.out).keep (kM.jK B.out 0) (Nat.zero_le _);clear hc1 h;obtain⟨y0,y1,y2,y3,y4⟩:=y;obtain⟨bb,t⟩:∃bb,Hid (jO vals y0 y1 y2 y3 y4=bb):=⟨_,rfl⟩;go_wp2
            go_region_with (go_at_call 75;refine(ahP vals y0 y1 y2 y3 y4 _).mono ?_;rintro e w5 ⟨rfl,b5⟩;rw[t.out];have r:Hid (Below wr.heap.size wr w5):=Bel.after (by first | exact(Below.refl _ _).drew | exact Below.refl _ _) b5;clear b5)
            all_goals
             rename_i w5 r
             cases bb
             ·go_wp2;go_ret;exact⟨false,rfl,qA (by intro hp;have h5:=(hp.2.2.2.2 k _ HX.out).2.2.2.1 m2 ⟨y0,y1,y2,y3,y4⟩ HY.out;rw[HV.out] at h5;have h6:jO vals y0 y1 y2 y3 y4=true:=h5;rw[t.out] at h6;exact(nomatch h6)),Bel.after H1.out (Bel.after B.out r.out)⟩
             ·go_wp2;go_roundw
              case rel=>
               refine⟨m2+1,by omega,by go_num,fun j p hj hp=>?_,Bel.after H5.out r.out⟩;by_cases e:j=m2
               ·subst e;have e2:=HY.out.symm.trans hp;simp only[Option.some.injEq] at e2;subst e2;exact t.out
               ·exact I.out j p (by omega) hp
              case measure=>simp[intOf];omega
           ·have J:m2=ln:=by omega
            have O:Hid (∀(j:Nat) p,x1[j]?=some p→qN vals p=true):=fun j p hp=>I.out j p (by have h1:=xP hp;have h2:=HLN.out;omega) hp
            clear J I;go_wp2;go_roundw
            case rel=>
             refine⟨k+1,by omega,by go_num,fun j p hj hp=>?_,Bel.after H0.out B.out⟩;by_cases e:j=k
             ·subst e;have e2:=HX.out.symm.trans hp;simp only[Option.some.injEq] at e2;subst e2;exact⟨by have:=HPN.out;show x0.length≤24;omega,by have:=HLN.out;show x1.length≤24;omega,X.out,O.out,L⟩
             ·exact HK.out j p (by omega) hp
            case measure=>simp[intOf];omega
    ·have ab:k=n:=by omega
     have H:Hid (jm F):=by
      refine⟨by have:=HN.out;omega,by have:=HN.out;omega,by have:=HV.out;omega,by have:=HV.out;omega,fun j p hp=>?_⟩;rw[HN.out,HV.out];exact HK.out j p (by have h1:=xP hp;have h2:=HN.out;omega) hp
     clear ab;go_wp2;go_ret;exact⟨true,rfl,⟨fun _=>H.out,fun _=>rfl⟩,H1.out⟩
end Go.Proofs.YtkbhbekfniadhaaGreat
namespace Go.Proofs.YtkbhbekfniadhaaGreat
open Go.ChangeShapes Go.WideShapes Go.ChangeAt Go.RowKit Go.Shelf
set_option linter.unusedVariables false
theorem Qu {w:World}{x:Int}{g lo:Nat}(hg:w.heap.size=g)(hl:lo≤g):ja (w.alloc (.cells #[vi x] 3)) lo (sq g 0 1 1) [x]:=by
 subst hg;exact⟨rfl,.inr ⟨w.heap.size,1,#[vi x],rfl,hl,World.alloc_heap_new w _,Nat.le_refl _,by decide,rfl,rfl⟩⟩
theorem aew {w:World}{x y:Int}{g lo:Nat}(hg:w.heap.size=g)(hl:lo≤g):ja (w.alloc (.cells #[vi x,vi y] 3)) lo (sq g 0 2 2) [x,y]:=by
 subst hg;exact⟨rfl,.inr ⟨w.heap.size,2,#[vi x,vi y],rfl,hl,World.alloc_heap_new w _,Nat.le_refl _,by decide,rfl,rfl⟩⟩
theorem ke {w:World}{g lo:Nat}(hg:w.heap.size=g)(hl:lo≤g):ja (w.alloc (.cells #[] 3)) lo (sq g 0 0 0) []:=by
 subst hg;exact(JT w).low hl
theorem kJ.out {w:World}{v:Value}{F:FnD}(h:kJ w v F){n:Nat}{vals:Int}(hn:F.blocks.length=n)(hv:F.values=vals):∃ba bcap,v=.agg #[.slice ba n bcap,vi vals]:=by
 obtain⟨bv,rfl,a,cap,rfl,_⟩:=h;exact⟨a,cap,by rw[hn,hv]⟩
theorem zo (v:Value)(F:FnD)(bn:Nat)(w:World)(hF:kJ w v F)(hb:bn<F.blocks.length) :
  Calls Tryz.prog 108 #[v,vi (bn:Int)] w fun e w'=>JS w (succsN F bn) e w':=by
 obtain⟨n,HN⟩:∃n,Hid (F.blocks.length=n):=⟨_,rfl⟩;obtain⟨vals,HV⟩:∃x,Hid (F.values=x):=⟨_,rfl⟩;obtain⟨ba,bcap,rfl⟩:=hF.out HN.out HV.out;rw[HN.out] at hb;obtain⟨bb,off,x,rfl,hx,t0,t1,t2,t3⟩:=hF.end hb;have r:bb<w.heap.size:=World.block_lt_of_cell? w _ t0;rw[adx hx];obtain⟨xp,xl,xk,xa,xt,xe⟩:=x;dsimp only at t0 t1 t2 t3;show Calls _ _ _ _ fun e w'=>JS w (xR xk xt xe) e w'
 clear hx hF;have t:(bn:Int)<(n:Int):=by omega
 by_cases h1:xk=1
 ·subst h1;rw[aav];go_enter Tryz.func108,Tryz.ntmps108
  go_wp2;go_ret;exact⟨_,rfl,Qu (by simp) (by omega),by repeat (first | exact Below.refl _ _ | apply Below.drew | refine Below.alloc ?_ (by simp <;> omega) _ | refine Below.setCell ?_ (by simp <;> omega) _)⟩
 ·have g1:(xk == 1)=false:=by simp[h1]
  by_cases h2:xk=2
  ·subst h2;by_cases het:xe=xt
   ·subst het;rw[abB rfl];go_enter Tryz.func108,Tryz.ntmps108
    go_wp2;go_ret;exact⟨_,rfl,Qu (by simp) (by omega),by repeat (first | exact Below.refl _ _ | apply Below.drew | refine Below.alloc ?_ (by simp <;> omega) _ | refine Below.setCell ?_ (by simp <;> omega) _)⟩
   ·rw[abC het];have g3:(xt == xe)=false:=by simp;exact fun h=>het h.symm
    go_enter Tryz.func108,Tryz.ntmps108
    go_wp2;go_ret;exact⟨_,rfl,aew (by simp) (by omega),by repeat (first | exact Below.refl _ _ | apply Below.drew | refine Below.alloc ?_ (by simp <;> omega) _ | refine Below.setCell ?_ (by simp <;> omega) _)⟩
  ·have g2:(xk == 2)=false:=by simp[h2]
   rw[aaw h1 h2];go_enter Tryz.func108,Tryz.ntmps108
   go_wp2;go_ret;exact⟨_,rfl,ke (by simp) (by omega),by repeat (first | exact Below.refl _ _ | apply Below.drew | refine Below.alloc ?_ (by simp <;> omega) _ | refine Below.setCell ?_ (by simp <;> omega) _)⟩
end Go.Proofs.YtkbhbekfniadhaaGreat
namespace Go.Proofs.YtkbhbekfniadhaaGreat
open Go.ChangeShapes Go.WideShapes Go.ChangeAt Go.RowKit Go.Shelf
set_option linter.unusedVariables false
theorem kJ.yg {w:World}{ba:Option Addr}{n bcap:Nat}{vals:Int}{F:FnD}(h:kJ w (.agg #[.slice ba n bcap,vi vals]) F){k:Nat}{x:jc}(hn:F.blocks.length=n)(hk:k<n)(hx:F.blocks[k]?=some x):∃b off,ba=some (Z b off)∧qH 0 w b (off+k*6) x:=by
 obtain⟨bv,he,a0,cap0,hbv,_,hc⟩:=h;have e1:(.slice ba n bcap:Value)=bv:=by simp at he;exact he.1
 rw[hbv] at e1;simp at e1;obtain⟨b,off,hb,_,hel⟩:=hc (by omega);exact⟨b,off,e1.1.trans hb,hel k x hx⟩
theorem yh {α:Type}{sz:Nat}{E:World→Nat→Nat→α→Prop}{w:World}{a:Option Addr}{n cap:Nat}{l:List α}(h:jz 0 sz E w (.slice a n cap) l){k:Nat}{x:α}(hx:l[k]?=some x):∃b off,a=some (Z b off)∧E w b (off+k*sz) x:=by
 obtain⟨a0,cap0,e,_,hc⟩:=h;simp at e;have hk:=(List.getElem?_eq_some_iff.1 hx).1;obtain⟨b,off,ha,_,hd⟩:=hc (by omega);exact⟨b,off,e.1.trans ha,hd k x hx⟩
end Go.Proofs.YtkbhbekfniadhaaGreat
namespace Go.Proofs.YtkbhbekfniadhaaGreat
open Go.ChangeShapes Go.WideShapes Go.ChangeAt Go.RowKit Go.Shelf
set_option linter.unusedVariables false
section
variable {P:Program} {ops:Array Oper} {Q:Exit→Act→World→Prop} {md:Region.Mode} {S:World→Prop} {m:Nat}
def xQ (P:Program)(md:Region.Mode)(ops:Array Oper)(Q:Exit→Act→World→Prop)(m:Nat)(S:World→Prop):Nat→Array Bool→Act→World→Prop
 | 0,li,a,w=>Region.ready md ops li = []∧Q .normal a w
 | fuel+1,li,a,w=>(Region.ready md ops li = []→Q .normal a w)∧∀i∈Region.ready md ops li,wpOp P ops Q i (fun a' w'=>(i≠m→S w')∧xQ P md ops Q m S fuel (li.setIfInBounds i true) a' w') a w
theorem xQ.any : ∀(fuel:Nat) (li:Array Bool) (a:Act) (w:World),xQ P md ops Q m S fuel li a w→wpAny P md ops Q fuel li a w
 | 0,_,_,_,h=>h
 | fuel+1,_,_,_,h=>⟨h.1,fun i hi=>wpOp_mono (fun a' w' h'=>xQ.any fuel _ a' w' h'.2) (h.2 i hi)⟩
def jb (md:Region.Mode)(ops:Array Oper)(m i:Nat):Bool:=match ops[m]? with | some o=>o.after.any (fun e=>Region.binds md e && e.on == i) | none=>true
theorem jD {i:Nat}{o:Oper}(h:jb md ops m i=true)(ho:ops[m]?=some o):∃e∈o.after,Region.binds md e=true∧e.on=i:=by
 simp only[jb,ho,Array.any_eq_true'] at h;obtain⟨e,he,hb⟩:=h;simp at hb;exact⟨e,he,hb⟩
theorem Yu {i:Nat}{oi:Oper}{v:Value}(hi:ops[i]?=some oi)(hsel:∀(j:Nat) (o:Oper) cs b,ops[j]?=some o→o.op≠.select cs b)
  (hQ:∀c a w,Q (.panic c) (a.put oi.dst v) w→Q (.panic c) a w) (hm:jb md ops m i=true):∀(fuel:Nat) (li:Array Bool) (a:Act) (w:World),
   (∀j oj,ops[j]?=some oj→j≠i→li.getD j true=false→(∀e∈oj.after,Region.binds md e=true→e.on≠i)→oi.apart ops oj=true) →
   i∈Region.ready md ops li→YieldsIf P ops S oi v a→S w →
   xQ P md ops Q m S fuel (li.setIfInBounds i true) (a.put oi.dst v) w→xQ P md ops Q m S (fuel+1) li a w
 | fuel,li,a,w,hfree,hr,hy,hS,H=>by
  refine⟨fun h=>(by rw[h] at hr;simp at hr),fun j hj=>?_⟩;by_cases hji:j=i
  ·subst hji;exact hy.wpOp hi hS ⟨fun _=>hS,H⟩
  ·have hj2:=ready_mono hj hji;cases fuel with
   | zero=>
    rw[H.1] at hj2;simp at hj2
   | succ fuel=>
    obtain⟨r,oj,hoj,hall⟩:=mem_ready.1 hj;have t:∀e∈oj.after,Region.binds md e=true→e.on≠i:=fun e he hb heq=>by
     have h1:=hall e he hb;have h0:=(mem_ready.1 hr).1;rw[heq] at h1;rcases Nat.lt_or_ge i li.size with h' | h'
     ·simp[h'] at h0 h1;rw[h0] at h1;simp at h1
     ·simp[Array.getElem?_eq_none h'] at h1
    have G:j≠m:=fun e=>by
     subst e;obtain⟨e,he,hb,ho⟩:=jD hm hoj;exact t e he hb ho
    have h2:=wpOp_putIf hoj (hfree j oj hoj hji r t) (fun cs b=>hsel i oi cs b hi) (fun cs b=>hsel j oj cs b hoj) hQ hy (H.2 j hj2);refine wpOp_mono (fun a' w' h3=>⟨fun _=>h3.2.1 G,?_⟩) h2;refine Yu hi hsel hQ hm fuel (li.setIfInBounds j true) a' w' (fun k ok hk J I K=>hfree k ok hk J ?_ K) (ready_mono hr (Ne.symm hji)) h3.1 (h3.2.1 G) ?_
    ·by_cases B:j=k
     ·subst B;exact r
     ·rw[getD_set_ne true B] at I;exact I
    ·rw[Array.setIfInBounds_comm _ _ hji];exact h3.2.2
theorem jk {i:Nat}{oi:Oper}{v:Value}{fuel:Nat}{li:Array Bool}{a:Act}{w:World}(hi:ops[i]?=some oi)
  (hs:Region.noSelect ops=true) (hf:Region.free md ops li i=true) (hr:(Region.ready md ops li).contains i=true) (hm:jb md ops m i=true)
  (hQ:∀c a w,Q (.panic c) (a.put oi.dst v) w→Q (.panic c) a w) (hy:YieldsIf P ops S oi v a) (hS:S w)
  (h:xQ P md ops Q m S fuel (li.setIfInBounds i true) (a.put oi.dst v) w):xQ P md ops Q m S (fuel+1) li a w :=
 Yu hi (Region.noSelect_spec hs) hQ hm fuel li a w (Region.free_spec hi hf) (by simpa using hr) hy hS h
theorem kC {i:Nat}{o:Oper}{fuel:Nat}{li:Array Bool}{a:Act}{w:World}(ho:ops[i]?=some o)(hg:o.guard=none)(hr:Region.ready md ops li = [i])
  (h:o.wp P a w (fun a' w'=>(i≠m→S w')∧xQ P md ops Q m S fuel (li.setIfInBounds i true) a' w') Q):xQ P md ops Q m S (fuel+1) li a w:=by
 refine⟨fun h0=>(by rw[hr] at h0;simp at h0),fun j hj=>?_⟩;rw[hr] at hj;have:j=i:=by simpa using hj
 subst this;unfold wpOp;simp only[ho];have hw:Region.wanted o (yielded ops a.tmps)=true:=by simp[Region.wanted,hg]
 rw[if_pos hw];exact .inl h
theorem zq {li:Array Bool}{a:Act}{w:World}(hr:Region.ready md ops li = [])(h:Q .normal a w):∀fuel,xQ P md ops Q m S fuel li a w
 | 0=>⟨hr,h⟩
 | _+1=>⟨fun _=>h,by rw[hr];simp⟩
theorem Y1 (m:Nat)(S:World→Prop){id:Nat}{a:Act}{w:World}(hm:P.follows .mixedOrders=true)
  (h:xQ P .any ops Q m S ops.size (Array.replicate ops.size false) a w.drew):(Code.region id ops true).wp P Q a w :=
 wp_region_any hm (xQ.any _ _ _ _ h)
theorem jx {o:Oper}{a:Act}{w:World}{K:Act→World→Prop}{f:FuncId}{args:Array Value}{R:Ending→World→Prop}(he:(execOp a.eval o).run P w=.ok (.enter f args) w)(h:Calls P f args w R)
  (hR:∀e w',R e w'→∃v,e=.returned v∧K (a.put o.dst v) w'):o.wp P a w K Q:=by
 unfold Oper.wp;rw[he];refine Calls.mono h (fun e w' hr=>?_);obtain⟨v,rfl,hk⟩:=hR e w' hr;exact hk
theorem ku {o:Oper}{v:Value}{a:Act}{x:Operand}(hg:o.guard=none)(ho:o.op=.move x)(hx:a.eval x=v):YieldsIf P ops S o v a :=
 .inl ⟨by simp[Region.wanted,hg],fun W _=>by simp[execOp,ho,hx]⟩
theorem xJ {o:Oper}{v:Value}{a:Act}{x:Operand}{t:TypeId}(hg:o.guard=none)(ho:o.op=.load t x){p:Value}(hx:a.eval x=p)(hl:∀W,S W→(Instr.loadAt t p).run P W=.ok v W):YieldsIf P ops S o v a :=
 .inl ⟨by simp[Region.wanted,hg],fun W hW=>by simp[execOp,ho,hx,hl W hW]⟩
theorem Yv {o:Oper}{v:Value}{a:Act}{x y:Operand}{t:TypeId}(hg:o.guard=none)(ho:o.op=.indexAddr t x y){p i:Value}(hx:a.eval x=p)(hy:a.eval y=i)(hl:∀W,S W→(Instr.indexAt t p i).run P W=.ok v W):YieldsIf P ops S o v a :=
 .inl ⟨by simp[Region.wanted,hg],fun W hW=>by simp[execOp,ho,hx,hy,hl W hW]⟩
theorem put_ne {a:Act}{d t:Nat}{v:Value}(h:d≠t):(a.put (some d) v).eval (.tmp t)=a.eval (.tmp t):=by
 unfold Act.put Act.eval;simp only[Array.getD_eq_getD_getElem?,Array.getElem?_setIfInBounds_ne h]
theorem put_eq {a:Act}{d:Nat}{v:Value}(h:d<a.tmps.size):(a.put (some d) v).eval (.tmp d)=v:=by
 simp[Act.put,Act.eval,Array.getD,h]
theorem Y3 {a:Act}{d:Nat}{v:Value}:(a.put (some d) v).tmps.size=a.tmps.size:=by simp[Act.put]
end
end Go.Proofs.YtkbhbekfniadhaaGreat
namespace Go.Proofs.YtkbhbekfniadhaaGreat
open Go.ChangeShapes Go.WideShapes Go.ChangeAt Go.RowKit Go.Shelf
set_option linter.unusedVariables false
section
variable {P:Program} {ops:Array Oper} {Q:Exit→Act→World→Prop} {md:Region.Mode} {S:World→Prop}
theorem jg {i:Nat}{o:Oper}{fuel:Nat}{li:Array Bool}{a:Act}{w:World}(ho:ops[i]?=some o)(hg:o.guard=none)(hr:Region.ready md ops li = [i])
  (h:∀K:Act→World→Prop,(∀a' w',(S w'∧wpAnyH P md ops Q S fuel (li.setIfInBounds i true) a' w')→K a' w')→o.wp P a w K Q):wpAnyH P md ops Q S (fuel+1) li a w:=by
 refine wpAnyH_all hr (by simp) (fun j hj=>?_);have e:j=i:=by simpa using hj
 subst e;unfold wpOp;simp only[ho];rw[if_pos (by simp[Region.wanted,hg])];exact .inl (h _ (fun _ _ h=>h))
theorem aie {i:Nat}{o:Oper}{fuel:Nat}{li:Array Bool}{a:Act}{w:World}(ho:ops[i]?=some o)(hg:Region.wanted o (yielded ops a.tmps)=true)(hr:Region.ready md ops li = [i])
  (h:∀K:Act→World→Prop,(∀a' w',(S w'∧wpAnyH P md ops Q S fuel (li.setIfInBounds i true) a' w')→K a' w')→o.wp P a w K Q):wpAnyH P md ops Q S (fuel+1) li a w:=by
 refine wpAnyH_all hr (by simp) (fun j hj=>?_);have e:j=i:=by simpa using hj
 subst e;unfold wpOp;simp only[ho];rw[if_pos hg];exact .inl (h _ (fun _ _ h=>h))
theorem zu {i i2:Nat}{o o2:Oper}{fuel:Nat}{li:Array Bool}{a:Act}{w:World}(ho:ops[i]?=some o)(ho2:ops[i2]?=some o2)(hg:o.guard=none)(hg2:o2.guard=none)(hr:Region.ready md ops li = [i,i2])
  (h:∀K:Act→World→Prop,(∀a' w',(S w'∧wpAnyH P md ops Q S fuel (li.setIfInBounds i true) a' w')→K a' w')→o.wp P a w K Q)
  (h2:∀K:Act→World→Prop,(∀a' w',(S w'∧wpAnyH P md ops Q S fuel (li.setIfInBounds i2 true) a' w')→K a' w')→o2.wp P a w K Q):wpAnyH P md ops Q S (fuel+1) li a w:=by
 refine wpAnyH_all hr (by simp) (fun j hj=>?_);have e:j=i∨j=i2:=by simpa using hj
 rcases e with e | e
 ·subst e;unfold wpOp;simp only[ho];rw[if_pos (by simp[Region.wanted,hg])];exact .inl (h _ (fun _ _ h=>h))
 ·subst e;unfold wpOp;simp only[ho2];rw[if_pos (by simp[Region.wanted,hg2])];exact .inl (h2 _ (fun _ _ h=>h))
theorem jC {o:Oper}{a:Act}{w w':World}{K:Act→World→Prop}{v:Value}(h:(execOp a.eval o).run P w=.ok (.value v) w')(hk:K (a.put o.dst v) w'):o.wp P a w K Q:=by
 unfold Oper.wp;rw[h];exact hk
def noThrow (Q:Exit→Act→World→Prop):Exit→Act→World→Prop
 | .normal,a,w=>Q .normal a w
 | _,_,_=>False
theorem KH {c:Code}{a:Act}{w:World}(h:c.wp P (noThrow Q) a w):c.wp P Q a w:=Code.wp_mono (fun e a w h=>by cases e <;> first | exact h | exact h.elim) h
end
end Go.Proofs.YtkbhbekfniadhaaGreat
namespace Go.Proofs.YtkbhbekfniadhaaGreat
open Go.ChangeShapes Go.WideShapes Go.ChangeAt Go.RowKit Go.Shelf
set_option linter.unusedVariables false
def qg (F:FnD):Prop:=jm F∧∀(j:Nat) b,F.blocks[j]?=some b→b.phis = []
theorem afb {b:jc}(h:b.phis = []):b.phis.length=0:=by rw[h];rfl
theorem kJ.most {w:World}{v:Value}{F:FnD}(h:kJ w v F):F.blocks.length≤9223372036854775807:=by
 obtain⟨bv,_,a,cap,_,hm,_⟩:=h;exact hm
theorem Yw (v:Value)(F:FnD)(w:World)(hF:kJ w v F) :
  Calls Tryz.prog 18 #[v] w fun e w'=>zI w (qg F) e w':=by
 have HF:Hid (kJ w v F):=hF;obtain⟨n,HN⟩:∃n,Hid (F.blocks.length=n):=⟨_,rfl⟩;obtain⟨vals,HV⟩:∃x,Hid (F.values=x):=⟨_,rfl⟩;obtain⟨ba,bcap,rfl⟩:=hF.out HN.out HV.out;have H:n≤9223372036854775807:=by rw[←HN.out];exact hF.most
 clear hF;obtain⟨wA,hwA⟩:∃wA,w.alloc (.cells #[.slice ba n bcap,vi vals] 26)=wA:=⟨_,rfl⟩;have B:Hid (Below w.heap.size w wA):=by rw[←hwA];exact Bel.alloc _ _
 have a0:wA.cell? (Z w.heap.size 0)=some (.slice ba n bcap):=by rw[←hwA];simp[go_sem]
 have t:wA.cell? (Z w.heap.size 1)=some (vi vals):=by rw[←hwA];simp[go_sem]
 go_enter Tryz.func18,Tryz.ntmps18
 go_wp2_with fail
 try rw[hwA]
 clear hwA;refine(Ky _ F _ (HF.out.later B.out)).mono ?_;rintro e w1 ⟨s,rfl,hs,b1⟩;have HS:Hid (s=true↔jm F):=hs;have B1:Hid (Below w.heap.size w w1):=Bel.after B.out b1;replace a0:=Bel.keeps b1 a0;replace t:=Bel.keeps b1 t;clear b1 hs;cases s
 ·go_wp2_with fail
  go_ret;exact⟨false,rfl,qA (fun h=>by have:=HS.out.2 h.1;cases this),B1.out⟩
 ·go_wp2_with fail
  go_loopw [3] (fun i wr=>∃k:Nat,k≤n∧i=vi k∧(∀(j:Nat) p,j<k→F.blocks[j]?=some p→p.phis = [])∧Below w1.heap.size w1 wr) (fun i _=>n-(intOf i).toNat)
  case atStart=>exact⟨0,Nat.zero_le _,rfl,fun j x hj=>absurd hj (by omega),Below.refl _ _⟩
  case round=>
   obtain⟨k,hk,rfl,hok,hb3⟩:=hrel;have HK:Hid (∀(j:Nat) p,j<k→F.blocks[j]?=some p→p.phis = []):=hok;have H0:Hid (Below w1.heap.size w1 wr):=hb3;have H1:Hid (Below w.heap.size w wr):=Bel.after B1.out hb3;have f0:=Bel.keeps hb3 a0;have f1:=Bel.keeps hb3 t;clear hok hb3;by_cases J:(k:Int)<(n:Int)
   ·have G:k<F.blocks.length:=by have:=HN.out;omega
    obtain⟨x,HX⟩:∃x,Hid (F.blocks[k]?=some x):=⟨F.blocks[k],List.getElem?_eq_getElem G⟩;obtain⟨b,off,rfl,pv,lv,c0,c1,c2,c3,c4,c5,hpv,hlv⟩:=kJ.yg (HF.out.later H1.out) HN.out (by omega) HX.out;clear G c1 c2 c3 c4 c5 hlv;obtain⟨pa,pcap,rfl,hpm,_⟩:=hpv;obtain⟨m,HM⟩:∃m,Hid (x.phis.length=m):=⟨_,rfl⟩;rw[HM.out] at c0 hpm;by_cases h0:(m:Int) > 0
    ·go_wp2_with fail
     go_ret;exact⟨false,rfl,qA (fun h=>by have h1:=afb (h.2 k x HX.out);have h2:=HM.out;omega),H1.out⟩
    ·go_wp2_with fail
     go_roundw
     case rel=>
      refine⟨k+1,by omega,by go_num,fun j p hj hp=>?_,H0.out⟩;by_cases e:j=k
      ·subst e;have e2:=HX.out.symm.trans hp;simp only[Option.some.injEq] at e2;subst e2;exact List.length_eq_zero_iff.1 (by have:=HM.out;omega)
      ·exact HK.out j p (by omega) hp
     case measure=>simp[intOf];omega
   ·have I:k=n:=by omega
    have r:Hid (qg F):=by
     refine⟨HS.out.1 (by simp),fun j p hp=>?_⟩;exact HK.out j p (by have h1:=xP hp;have h2:=HN.out;omega) hp
    clear I;go_wp2_with fail
    go_ret;exact⟨true,rfl,⟨fun _=>r.out,fun _=>rfl⟩,H1.out⟩
theorem agf (v:Value)(F:FnD)(w:World)(hF:kJ w v F) :
  Calls Tryz.prog 46 #[v] w fun e w'=>zI w (qg F) e w':=by
 have HF:Hid (kJ w v F):=hF;obtain⟨n,HN⟩:∃n,Hid (F.blocks.length=n):=⟨_,rfl⟩;obtain⟨vals,HV⟩:∃x,Hid (F.values=x):=⟨_,rfl⟩;obtain⟨ba,bcap,rfl⟩:=hF.out HN.out HV.out;have B:n≤9223372036854775807:=by rw[←HN.out];exact hF.most
 clear hF;obtain⟨wA,hwA⟩:∃wA,w.alloc (.cells #[.slice ba n bcap,vi vals] 26)=wA:=⟨_,rfl⟩;have G:Hid (Below w.heap.size w wA):=by rw[←hwA];exact Bel.alloc _ _
 have a0:wA.cell? (Z w.heap.size 0)=some (.slice ba n bcap):=by rw[←hwA];simp[go_sem]
 have H:wA.cell? (Z w.heap.size 1)=some (vi vals):=by rw[←hwA];simp[go_sem]
 go_enter Tryz.func46,Tryz.ntmps46
 go_wp2_with fail
 try rw[hwA]
 clear hwA;go_loopw [8] (fun i wr=>∃k:Nat,k≤n∧i=vi k∧(∀(j:Nat) p,j<k→F.blocks[j]?=some p→p.phis = [])∧Below wA.heap.size wA wr) (fun i _=>n-(intOf i).toNat)
 case atStart=>exact⟨0,Nat.zero_le _,rfl,fun j x hj=>absurd hj (by omega),Below.refl _ _⟩
 case round=>
  obtain⟨k,hk,rfl,hok,hb3⟩:=hrel;have HK:Hid (∀(j:Nat) p,j<k→F.blocks[j]?=some p→p.phis = []):=hok;have H0:Hid (Below wA.heap.size wA wr):=hb3;have H1:Hid (Below w.heap.size w wr):=Bel.after G.out hb3;have f0:=Bel.keeps hb3 a0;have f1:=Bel.keeps hb3 H;clear hok hb3;by_cases J:(k:Int)<(n:Int)
  ·have t:k<F.blocks.length:=by have:=HN.out;omega
   obtain⟨x,HX⟩:∃x,Hid (F.blocks[k]?=some x):=⟨F.blocks[k],List.getElem?_eq_getElem t⟩;obtain⟨b,off,rfl,pv,lv,c0,c1,c2,c3,c4,c5,hpv,hlv⟩:=kJ.yg (HF.out.later H1.out) HN.out (by omega) HX.out;clear t;obtain⟨pa,pcap,rfl,hpm,_⟩:=hpv;obtain⟨la,lcap,rfl,hlm,_⟩:=hlv;obtain⟨m,HM⟩:∃m,Hid (x.phis.length=m):=⟨_,rfl⟩;rw[HM.out] at c0 hpm;by_cases h0:(m:Int) > 0
   ·go_wp2_with fail
    go_ret;exact⟨false,rfl,qA (fun h=>by have h1:=afb (h.2 k x HX.out);have h2:=HM.out;omega),Bel.after H1.out (Bel.alloc _ _)⟩
   ·go_wp2_with fail
    go_roundw
    case rel=>
     refine⟨k+1,by omega,by go_num,fun j p hj hp=>?_,Bel.after H0.out (Bel.alloc _ _)⟩;by_cases e:j=k
     ·subst e;have e2:=HX.out.symm.trans hp;simp only[Option.some.injEq] at e2;subst e2;exact List.length_eq_zero_iff.1 (by have:=HM.out;omega)
     ·exact HK.out j p (by omega) hp
    case measure=>simp[intOf];omega
  ·have I:k=n:=by omega
   have r:Hid (∀(j:Nat) p,F.blocks[j]?=some p→p.phis = []):=fun j p hp=>
    HK.out j p (by have h1:=xP hp;have h2:=HN.out;omega) hp
   clear I;go_wp2_with fail
   refine(adA _ F _ (HF.out.later H1.out)).mono ?_;rintro e w2 ⟨s,rfl,hs,b2⟩;have HS:Hid (s=true↔jm F):=hs;have B2:Hid (Below w.heap.size w w2):=Bel.after H1.out b2;clear hs b2;go_wp2_with fail
   go_ret;exact⟨s,rfl,⟨fun h=>⟨HS.out.1 h,r.out⟩,fun h=>HS.out.2 h.1⟩,B2.out⟩
theorem Yx (v:Value)(F:FnD)(w:World)(hF:kJ w v F) :
  Calls Tryz.prog 17 #[v] w fun e w'=>zI w (qg F) e w':=by
 have HF:Hid (kJ w v F):=hF;obtain⟨n,HN⟩:∃n,Hid (F.blocks.length=n):=⟨_,rfl⟩;obtain⟨vals,HV⟩:∃x,Hid (F.values=x):=⟨_,rfl⟩;obtain⟨ba,bcap,rfl⟩:=hF.out HN.out HV.out;clear hF;go_enter Tryz.func17,Tryz.ntmps17
 go_wp2_with fail
 refine(agf _ F _ (HF.out.later (Bel.alloc _ _))).mono ?_;rintro e w2 ⟨s,rfl,hs,b2⟩;have HS:Hid (s=true↔qg F):=hs;have B2:Hid (Below w.heap.size w w2):=Bel.after (Bel.alloc _ _) b2;clear hs b2;go_wp2_with fail
 go_ret;exact⟨s,rfl,HS.out,B2.out⟩
end Go.Proofs.YtkbhbekfniadhaaGreat
