/- A place more in the list of a block of a program of the call's own, where the lists have room. The list of a block is another one: the header is put. The copy while blocks are lowered: its state, and how each step keeps it. -/
import Derived.Test.YtkbhbekfniadhaaGreatTk0
import Derived.Test.YtkbhbekfniadhaaGreatKSpot
import Derived.Test.YtkbhbekfniadhaaGreatKL2Co
import Derived.Maps.AppendAt
namespace Go.Proofs.YtkbhbekfniadhaaGreat
open Go.ChangeShapes Go.WideShapes Go.ChangeAt Go.RowKit
set_option linter.unusedVariables false
theorem ahw {w:World}{lo n cap:Nat}{la:Option Addr}{l:List kS}(hn:l.length=n)(h0:0<n)(hr:Jm w la n cap)(hE:∃g,la=some (Z g 0)∧lo≤g∧∀i x,l[i]?=some x→jU w g (i*5) x):yl w lo (.slice la n cap) l:=by
 rcases hr with ⟨h1,_⟩ | ⟨_,g,cur,e,hg,h1,h2,h3⟩
 ·omega
 obtain⟨g',e',hlo,hx⟩:=hE;have:g'=g:=by rw[e] at e';simp at e';exact e'.symm
 subst this;subst e;subst hn;refine⟨afc l,.inr ⟨g',cap,cur,rfl,hlo,hg,h1,h2,h3,?_⟩⟩
 apply List.ext_getElem?
 intro j;by_cases hj:j<l.length*5
 ·rw[List.getElem?_take_of_lt hj];obtain⟨x,hxx⟩:∃x,l[j / 5]?=some x:=⟨_,List.getElem?_eq_getElem (by omega)⟩;obtain⟨c0,c1,c2,c3,c4⟩:=hx _ _ hxx;have e:=afd hxx (c:=j % 5) (by omega);rw[show j / 5*5+j % 5=j by omega] at e;rw[e];have h:∀i,w.cell? (Z g' i)=cur.toList[i]?:=fun i=>by simp[World.cell?,hg]
  rw[←h];have r:j % 5=0∨j % 5=1∨j % 5=2∨j % 5=3∨j % 5=4:=by omega
  rcases r with c | c | c | c | c <;> rw[c]
  ·rw[show j=j / 5*5 by omega];simpa using c0
  ·rw[show j=j / 5*5+1 by omega];simpa using c1
  ·rw[show j=j / 5*5+2 by omega];simpa using c2
  ·rw[show j=j / 5*5+3 by omega];simpa using c3
  ·rw[show j=j / 5*5+4 by omega];simpa using c4
 ·rw[List.getElem?_eq_none (by rw[List.length_take];omega),List.getElem?_eq_none (by rw[afc];omega)]
def yV (y:kS):List Value := [vi y.op,vi y.d,vi y.a,vi y.b,vi y.n]
theorem add_one (lo:Nat)(la:Option Addr)(n cap:Nat)(l:List kS)(y:kS)(w:World)(hn:l.length=n)(hr:Jm w la n cap)(hE:0<n→∃g,la=some (Z g 0)∧lo≤g∧∀i x,l[i]?=some x→jU w g (i*5) x)(hlo:lo≤w.heap.size)(h9:n≤1000000) :
  ∃v' w',(∀ty,(Builtin.append_ #[39,39] ty #[.slice la n cap,sq w.heap.size 0 1 1]).run Tryz.prog (w.alloc (.cells (yV y).toArray 47))=.ok v' w')∧yl w' lo v' (l ++ [y])∧Below lo w w'∧w.heap.size≤w'.heap.size ∧
   (∀g,g<w.heap.size→(0<n→la≠some (Z g 0))→w'.heap[g]?=w.heap[g]?)∧(∀g,v'.ownBlock=some g→(0<n∧la=some (Z g 0))∨w.heap.size≤g):=by
 obtain⟨i0,hi,hz0,hz1,hz2⟩:=info_parts acC;have M:2000000≤maxLen:=by decide
 have ha:=Bel.alloc w (.cells (yV y).toArray 47);have r:∀j u,(yV y)[j]?=some u→(w.alloc (.cells (yV y).toArray 47)).cell? (((Z w.heap.size 0):Addr).add j)=some u:=Q4 w (yV y) _;have B:∀u∈yV y,u.oneCell'=true:=by simp[yV,Value.oneCell']
 by_cases h0:0<n
 ·obtain⟨g,hla,hg,hx⟩:=hE h0;have G:=ahw hn h0 hr (hE h0);subst hla;have H:(w.alloc (.cells (yV y).toArray 47)).ownsRow lo 47 5 (sq g 0 n cap) n (agn l):=by
   have:=World.ownsRow.alloc G (.cells (yV y).toArray 47);rw[hn] at this;exact this
  obtain⟨v',w',hrun,ho,t,_,hob⟩:=run_append_own_at (P:=Tryz.prog) (w.alloc (.cells (yV y).toArray 47)) lo 39 39 47 i0 (.agg #[vi 0,vi 0,vi 0,vi 0,vi 0]) 5 40 Tryz.underlying39 hi hz0 hz1 hz2 rfl (by decide) (sq g 0 n cap) n (agn l) H (Z w.heap.size 0) 1 1 (yV y) rfl r B (by omega) (by omega) (by have:=ha.size;omega);have hb:Below lo (w.alloc (.cells (yV y).toArray 47)) w':=(Below.refl lo _).grown t (by have:=ha.size;omega) (fun j ej=>by simp[Value.ownBlock] at ej;omega);refine⟨v',w',fun ty=>hrun,aeA hn ho,(ha.mono hlo).trans hb,Nat.le_trans ha.size hb.size,fun g2 h2 h3=>?_,fun g2 h2=>?_⟩
  ·exact(t.block g2 (Nat.lt_of_lt_of_le h2 ha.size) (fun e=>by simp[Value.ownBlock] at e;exact h3 h0 (by rw[e]))).trans (ha.block g2 h2)
  ·rcases hob with e | e
   ·rw[e] at h2;simp[Value.ownBlock] at h2;exact .inl ⟨h0,by rw[h2]⟩
   ·rw[e] at h2;simp at h2;exact .inr (by omega)
 ·have L:n=0:=by omega
  have K:l = []:=List.eq_nil_of_length_eq_zero (by omega);have J:cap=0:=by
   rcases hr with ⟨_,h⟩ | ⟨h,_⟩
   ·exact h
   ·omega
  subst L K J;have fin:∀v' w',(w'.ownsRow (w.alloc (.cells (yV y).toArray 47)).heap.size 47 5 v' 1 (yV y))→(w.alloc (.cells (yV y).toArray 47)).grownBy w' none→yl w' lo v' ([] ++ [y])∧Below lo w w'∧w.heap.size≤w'.heap.size∧(∀g,g<w.heap.size→(0<0→la≠some (Z g 0))→w'.heap[g]?=w.heap[g]?)∧(∀g,v'.ownBlock=some g→(0<0∧la=some (Z g 0))∨w.heap.size≤g):=fun v' w' ho t=>by
   have hb:Below lo (w.alloc (.cells (yV y).toArray 47)) w':=(Below.refl lo _).grown t (by have:=ha.size;omega) (fun j ej=>by cases ej);have I:yl w' (w.alloc (.cells (yV y).toArray 47)).heap.size v' [y]:=ho;refine⟨I.low (by have:=ha.size;omega),(ha.mono hlo).trans hb,Nat.le_trans ha.size hb.size,fun g2 h2 _=>?_,fun g2 h2=>.inr ?_⟩
   ·exact(t.block g2 (Nat.lt_of_lt_of_le h2 ha.size) (fun e=>by cases e)).trans (ha.block g2 h2)
   ·have:=(I.lt h2).1;have:=ha.size;omega
  cases la with
  | none=>
   have H:(w.alloc (.cells (yV y).toArray 47)).ownsRow (w.alloc (.cells (yV y).toArray 47)).heap.size 47 5 (.slice none 0 0) 0 []:=⟨rfl,.inl ⟨rfl,rfl⟩⟩;obtain⟨v',w',hrun,ho,t,_,_⟩:=run_append_own_at (P:=Tryz.prog) (w.alloc (.cells (yV y).toArray 47)) (w.alloc (.cells (yV y).toArray 47)).heap.size 39 39 47 i0 (.agg #[vi 0,vi 0,vi 0,vi 0,vi 0]) 5 40 Tryz.underlying39 hi hz0 hz1 hz2 rfl (by decide) (.slice none 0 0) 0 [] H (Z w.heap.size 0) 1 1 (yV y) rfl r B (by omega) (by omega) (Nat.le_refl _);exact⟨v',w',fun ty=>hrun,fin v' w' ho t⟩
  | some a=>
   obtain⟨v',w',hrun,ho,t⟩:=run_append_arg_grows (P:=Tryz.prog) (w.alloc (.cells (yV y).toArray 47)) 39 39 47 i0 (.agg #[vi 0,vi 0,vi 0,vi 0,vi 0]) 5 40 Tryz.underlying39 hi hz0 hz1 hz2 rfl (by decide) a 0 0 [] rfl (fun j u h=>by simp at h) (Z w.heap.size 0) 1 1 (yV y) rfl r (by omega) (by omega) (by omega);exact⟨v',w',fun ty=>hrun,fin v' w' ho t⟩
def ad8 (own:k6)(v:Value)(i:Nat):k6:=fun b=>if v.ownBlock=some b then(2,i,0) else if own b=(2,i,0) then(9,0,0) else own b
theorem YY {own:k6}{v:Value}{i b:Nat}(hv:v.ownBlock≠some b)(hb:own b≠(2,i,0)):ad8 own v i b=own b:=by
 unfold ad8;rw[if_neg hv,if_neg hb]
theorem reAt_new {own:k6}{v:Value}{i b:Nat}(hv:v.ownBlock=some b):ad8 own v i b=(2,i,0):=if_pos hv
theorem XS {own:k6}{v:Value}{i b:Nat}(h:(ad8 own v i b).1≤3):v.ownBlock=some b∨(v.ownBlock≠some b∧own b≠(2,i,0)∧(own b).1≤3):=by
 by_cases e:v.ownBlock=some b
 ·exact .inl e
 ·refine .inr ⟨e,?_⟩;unfold ad8 at h;rw[if_neg e] at h;by_cases e2:own b=(2,i,0)
  ·rw[if_pos e2] at h;simp at h
  ·rw[if_neg e2] at h;exact⟨e2,h⟩
theorem FnO.ahx {lo:Nat}{own:k6}{w w':World}{bv:Value}{bs:List jc}(h:FnO lo own w bv bs){i:Nat}{x:jc}(hx:bs[i]?=some x){v':Value}{l':List kS}{rb roff n cap:Nat}(hv:bv=sq rb roff n cap)
  (hO:yl w' lo v' l') (hblk:∀g,v'.ownBlock=some g→own g=(2,i,0)∨w.heap.size≤g) (hs:∀g,(own g).1≤3→own g≠(2,i,0)→w'.heap[g]?=w.heap[g]?) (hz:w.heap.size≤w'.heap.size) :
  FnO lo (ad8 own v' i) (w'.setCell (Z rb (roff+i*6+1)) v') bv (bs.set i { x with list:=l' }):=by
 have hi:i<bs.length:=(List.getElem?_eq_some_iff.1 hx).1;subst hv;obtain⟨O,roff',e,hb0,hd0⟩:=h.rows.get hx;simp at e;obtain⟨rfl,rfl⟩:=e;have L:∀g,(own g).1≤3→own g≠(2,i,0)→v'.ownBlock≠some g:=fun g h1 h2 e=>by
  rcases hblk g e with h3 | h3
  ·exact h2 h3
  ·have:=h.high g h1;omega
 have hk:∀{g c},own g=c→c.1≤3→c≠(2,i,0)→ad8 own v' i g=c:=fun {g c} h1 h2 h3=>by
  rw[YY (L g (by rw[h1];exact h2) (by rw[h1];exact h3)) (by rw[h1];exact h3)];exact h1
 have M:v'.ownBlock≠some rb:=L rb (by rw[hb0];simp) (by rw[hb0];simp);have G:∀g,g≠rb→(w'.setCell (Z rb (roff+i*6+1)) v').heap[g]?=w'.heap[g]?:=fun g hg=>Below.heap_setCell _ _ _ g hg
 have t:∀{g c},own g=c→c.1≤3→c≠(2,i,0)→c≠(0,0,0)→(w'.setCell (Z rb (roff+i*6+1)) v').heap[g]?=w.heap[g]?:=fun {g c} h1 h2 h3 h4=>
  (G g (fun e=>h4 (by rw[←h1,e];exact hb0))).trans (hs g (by rw[h1];exact h2) (by rw[h1];exact h3))
 have H:w'.heap[rb]?=w.heap[rb]?:=hs rb (by rw[hb0];simp) (by rw[hb0];simp);have r:∀o,o≠roff+i*6+1→(w'.setCell (Z rb (roff+i*6+1)) v').cell? (Z rb o)=w.cell? (Z rb o):=fun o ho=>by
  rw[World.cell?_setCell_other _ _ _ _ (fun e=>ho (by have:=congrArg Addr.off e;simp at this;omega))];exact jf H o
 have B:∀{j pv} {ps:List yy},kE (fun g=>own g=(1,j,0)) 2 (agk own j) w pv ps→kE (fun g=>ad8 own v' i g=(1,j,0)) 2 (agk (ad8 own v' i) j) (w'.setCell (Z rb (roff+i*6+1)) v') pv ps:=fun {j pv ps} hp=>by
  refine hp.imp (fun g hg=>hk hg (by simp) (by simp)) (fun q b o z hb _ hz=>?_);obtain⟨q0,av,q1,q2⟩:=hz;have e1:=t hb (by simp) (by simp) (by simp);refine⟨(jf e1 _).trans q0,av,(jf e1 _).trans q1,q2.imp (fun g hg=>hk hg (by simp) (by simp)) (fun _ b2 _ _ I _ J=>J.same (t I (by simp) (by simp) (by simp)))⟩
 refine⟨?_,fun g hg=>?_,fun g hg=>?_,fun g hg j=>?_⟩
 ·obtain⟨a,cap0,e,hm,hc⟩:=h.rows;simp at e;obtain⟨rfl,rfl,rfl⟩:=e;refine⟨_,_,by rw[List.length_set],by rw[List.length_set];exact hm,fun hp=>?_⟩;rw[List.length_set] at hp;obtain⟨b,off,e,hb,hd⟩:=hc hp;simp at e;obtain⟨rfl,rfl⟩:=e;refine⟨_,_,rfl,hk hb (by simp) (by simp),fun j y hy=>?_⟩;by_cases e:j=i
  ·subst e;rw[List.getElem?_set_self hi] at hy;cases hy
   obtain⟨pv,lv,c0,c1,c2,c3,c4,c5,hp,hl0⟩:=hd j x hx;refine⟨pv,v',(r _ (by omega)).trans c0,?_,(r _ (by omega)).trans c2,(r _ (by omega)).trans c3,(r _ (by omega)).trans c4,(r _ (by omega)).trans c5,B hp,?_⟩
   ·exact World.cell?_setCell_same _ _ _ ((jf H _).trans c1)
   ·refine(hO.listO (S:=fun g=>ad8 own v' j g=(2,j,0)) (fun g hg=>reAt_new hg)).imp (fun _ h=>h) (fun q b o z I _ J=>J.same (G b (fun e2=>?_)));rw[e2,YY M (by rw[hb0];simp),hb0] at I;simp at I
  ·rw[List.getElem?_set_ne (by omega)] at hy;obtain⟨pv,lv,c0,c1,c2,c3,c4,c5,hp,hl0⟩:=hd j y hy;refine⟨pv,lv,(r _ (by omega)).trans c0,(r _ (by omega)).trans c1,(r _ (by omega)).trans c2,(r _ (by omega)).trans c3,(r _ (by omega)).trans c4,(r _ (by omega)).trans c5,B hp,?_⟩;have K:((2:Nat),j,(0:Nat))≠(2,i,0):=fun e2=>e (by simpa using e2)
   exact hl0.imp (fun g hg=>hk hg (by simp) K) (fun _ b2 _ _ I _ J=>J.same (t I (by simp) K (by simp)))
 ·rcases XS hg with e | ⟨_,_,h3⟩
  ·exact(hO.lt e).1
  ·exact h.low g h3
 ·rcases XS hg with e | ⟨_,_,h3⟩
  ·simpa using (hO.lt e).2.1
  ·have:=h.high g h3;simp;omega
 ·rcases XS hg with e | ⟨_,h2,h3⟩
  ·simpa using (hO.lt e).2.2 j
  ·rw[←h.aaz g h3 j];by_cases e:g=rb
   ·subst e;simp only[World.frozen?_setCell];exact kQ H j
   ·exact kQ ((G g e).trans (hs g h3 h2)) j
theorem FnO.dropPhis {lo:Nat}{own:k6}{w:World}{bv:Value}{bs:List jc}(h:FnO lo own w bv bs){i:Nat}{x:jc}(hx:bs[i]?=some x){rb roff n cap:Nat}(hv:bv=sq rb roff n cap):FnO lo own (w.setCell (Z rb (roff+i*6)) (.slice none 0 0)) bv (bs.set i { x with phis := [] }):=by
 have hi:i<bs.length:=(List.getElem?_eq_some_iff.1 hx).1;have hs:∀g,g≠rb→(w.setCell (Z rb (roff+i*6)) (.slice none 0 0)).heap[g]?=w.heap[g]?:=fun g hg=>Below.heap_setCell _ _ _ g hg
 have hc:∀o,o≠roff+i*6→(w.setCell (Z rb (roff+i*6)) (.slice none 0 0)).cell? (Z rb o)=w.cell? (Z rb o):=fun o ho=>World.cell?_setCell_other _ _ _ _ (fun e=>ho (by have:=congrArg Addr.off e;simp at this;omega))
 refine⟨?_,h.low,fun g hg=>by simpa using h.high g hg,fun g hg j=>by simpa using h.aaz g hg j⟩;obtain⟨a,cap0,e0,hm,hcc⟩:=h.rows;refine⟨a,cap0,by rw[List.length_set];exact e0,by rw[List.length_set];exact hm,fun hp=>?_⟩;rw[List.length_set] at hp;obtain⟨b,off,ha,hb,hd⟩:=hcc hp;have e1:=e0.symm.trans hv;rw[ha] at e1;simp at e1;obtain⟨⟨rfl,rfl⟩,_⟩:=e1;have r:∀g,own g≠(0,0,0)→(w.setCell (Z b (off+i*6)) (.slice none 0 0)).heap[g]?=w.heap[g]?:=fun g hg=>hs g (fun e=>hg (by rw[e];exact hb))
 refine⟨b,off,ha,hb,fun j y hy=>?_⟩;by_cases e:j=i
 ·subst e;rw[List.getElem?_set_self hi] at hy;cases hy
  obtain⟨pv,lv,c0,c1,c2,c3,c4,c5,hp,hl⟩:=hd j x hx;exact⟨.slice none 0 0,lv,World.cell?_setCell_same _ _ _ c0,(hc _ (by omega)).trans c1,(hc _ (by omega)).trans c2,(hc _ (by omega)).trans c3,(hc _ (by omega)).trans c4,(hc _ (by omega)).trans c5,kE.nil _ _,yj hl (fun g hg=>r g (by rw[hg];simp))⟩
 ·rw[List.getElem?_set_ne (by omega)] at hy;obtain⟨pv,lv,c0,c1,c2,c3,c4,c5,hp,hl⟩:=hd j y hy;exact⟨pv,lv,(hc _ (by omega)).trans c0,(hc _ (by omega)).trans c1,(hc _ (by omega)).trans c2,(hc _ (by omega)).trans c3,(hc _ (by omega)).trans c4,(hc _ (by omega)).trans c5,xE hp (fun g hg=>r g (by rw[hg];simp)) (fun g j hg=>r g (by rw[hg];simp)),yj hl (fun g hg=>r g (by rw[hg];simp))⟩
theorem ab2 {lo:Nat}{own:k6}{w:World}{bv:Value}{bs:List jc}(h:FnO lo own w bv bs)(hr:z6 own w bv bs){i:Nat}{x:jc}(hx:bs[i]?=some x){rb roff n cap:Nat}(hv:bv=sq rb roff n cap) :
  ∃la c,w.cell? (Z rb (roff+i*6+1))=some (.slice la x.list.length c)∧Jm w la x.list.length c∧(0<x.list.length→∃g,la=some (Z g 0)∧own g=(2,i,0)∧∀j y,x.list[j]?=some y→jU w g (j*5) y):=by
 subst hv;obtain⟨b1,o1,e1,hb,pv,lv,c0,c1,c2,c3,c4,c5,hp,hl⟩:=h.rows.get hx;simp at e1;obtain⟨rfl,rfl⟩:=e1;obtain⟨b2,o2,e2,_,la,c,d1,d2⟩:=kE.get hr hx;simp at e2;obtain⟨rfl,rfl⟩:=e2;have e3:=c1.symm.trans d1;simp at e3;subst e3;refine⟨la,c,d1,d2,fun r=>?_⟩;obtain⟨a0,cap0,e4,_,hc⟩:=hl;simp at e4;obtain⟨g,off,ha,hg,hd⟩:=hc r;rcases d2 with ⟨h0,_⟩ | ⟨_,g2,cur,e5,_⟩
 ·omega
 have e6:=(e4.1.trans ha).symm.trans e5;simp at e6;obtain⟨rfl,rfl⟩:=e6;exact⟨g,e5,hg,fun j y hy=>by simpa using hd j y hy⟩
theorem z6.same {own own':k6}{w w':World}{bv:Value}{bs:List jc}(h:z6 own w bv bs)(ho:∀g,own g=(0,0,0)→own' g=(0,0,0))(hs:∀g,g<w.heap.size→w'.heap[g]?=w.heap[g]?):z6 own' w' bv bs:=by
 refine kE.imp h ho (fun i b o x hb _ hx=>?_);obtain⟨la,cap,h1,h2⟩:=hx;have r:b<w.heap.size:=by
  refine Nat.lt_of_not_le (fun hle=>?_);rw[World.cell?,Array.getElem?_eq_none hle] at h1;simp at h1
 refine⟨la,cap,(jf (hs b r) _).trans h1,h2.turn (fun h0=>?_)⟩;rcases h2 with h2 | ⟨_,g,cur,e,hg,_⟩
 ·omega
 ·exact⟨g,e,hs g (aI hg).1⟩
theorem z6.put {lo:Nat}{own:k6}{w:World}{bv:Value}{bs:List jc}(hf:FnO lo own w bv bs)(h:z6 own w bv bs){i:Nat}{x:jc}(hx:bs[i]?=some x){rb roff n cap:Nat}(hv:bv=sq rb roff n cap)(u:Value):z6 own (w.setCell (Z rb (roff+i*6)) u) bv (bs.set i { x with phis := [] }):=by
 have hi:i<bs.length:=(List.getElem?_eq_some_iff.1 hx).1;have key:∀(j:Nat) (y z:jc),bs[j]?=some y→z.list=y.list→RoomE (w.setCell (Z rb (roff+i*6)) u) rb (roff+j*6) z:=fun j y z hy hz=>by
  obtain⟨la,c,d1,d2,d3⟩:=ab2 hf h hy hv;obtain⟨r,roff',cap',pv,lv,hv',hb,_⟩:=hf.aez hx;rw[hv] at hv';simp at hv';obtain⟨⟨rfl,rfl⟩,_⟩:=hv';unfold RoomE;rw[hz];refine⟨la,c,(World.cell?_setCell_other _ _ _ _ (fun e=>by have:=congrArg Addr.off e;simp at this;omega)).trans d1,d2.turn (fun h0=>?_)⟩;obtain⟨g,e,hg,_⟩:=d3 h0;exact⟨g,e,Below.heap_setCell _ _ _ g (fun e2=>by have e3:g=rb:=e2;rw[e3,hb] at hg;simp at hg)⟩
 obtain⟨a,c,e,hm,hc⟩:=h;refine⟨a,c,by rw[List.length_set];exact e,by rw[List.length_set];exact hm,fun hp=>?_⟩;rw[List.length_set] at hp;obtain⟨b,off,ha,hb,hd⟩:=hc hp;have e1:=e.symm.trans hv;rw[ha] at e1;simp at e1;obtain⟨⟨rfl,rfl⟩,_⟩:=e1;refine⟨b,off,ha,hb,fun j y hy=>?_⟩;by_cases e:j=i
 ·subst e;rw[List.getElem?_set_self hi] at hy;cases hy
  exact key j x _ hx rfl
 ·rw[List.getElem?_set_ne (by omega)] at hy;exact key j y y hy rfl
theorem z6.ahx {lo:Nat}{own:k6}{w w':World}{bv:Value}{bs:List jc}(hf:FnO lo own w bv bs)(h:z6 own w bv bs){i:Nat}{x:jc}(hx:bs[i]?=some x){v':Value}{l':List kS}{rb roff n cap:Nat}(hv:bv=sq rb roff n cap)
  (hO:yl w' lo v' l') (h0:0<l'.length) (hblk:∀g,v'.ownBlock=some g→own g=(2,i,0)∨w.heap.size≤g) (hs:∀g,(own g).1≤3→own g≠(2,i,0)→w'.heap[g]?=w.heap[g]?) :
  z6 (ad8 own v' i) (w'.setCell (Z rb (roff+i*6+1)) v') bv (bs.set i { x with list:=l' }):=by
 have hi:i<bs.length:=(List.getElem?_eq_some_iff.1 hx).1;obtain⟨J,roff',cap',pv,lv,hv',hrb,_,hc1,_⟩:=hf.aez hx;have e1:=hv.symm.trans hv';simp at e1;obtain⟨⟨G,e12⟩,_⟩:=e1;rw[←G] at hrb hc1;rw[←e12] at hc1;have I:∀g,(own g).1≤3→own g≠(2,i,0)→v'.ownBlock≠some g:=fun g h1 h2 e=>by
  rcases hblk g e with h3 | h3
  ·exact h2 h3
  ·have:=hf.high g h1;omega
 have B:v'.ownBlock≠some rb:=I rb (by rw[hrb];simp) (by rw[hrb];simp);have r:∀g,g≠rb→(w'.setCell (Z rb (roff+i*6+1)) v').heap[g]?=w'.heap[g]?:=fun g hg=>Below.heap_setCell _ _ _ g hg
 have t:w'.heap[rb]?=w.heap[rb]?:=hs rb (by rw[hrb];simp) (by rw[hrb];simp);obtain⟨a,c,e,hm,hc⟩:=id h;refine⟨a,c,by rw[List.length_set];exact e,by rw[List.length_set];exact hm,fun hp=>?_⟩;rw[List.length_set] at hp;obtain⟨b,off,ha,hb,hd⟩:=hc hp;have e1:=e.symm.trans hv;rw[ha] at e1;simp at e1;obtain⟨⟨H,e14⟩,_⟩:=e1;subst H e14;refine⟨b,off,ha,?_,fun j y hy=>?_⟩
 ·show ad8 own v' i b=(0,0,0);rw[YY B (by rw[hrb];simp)];exact hrb
 ·by_cases e:j=i
  ·subst e;rw[List.getElem?_set_self hi] at hy;cases hy
   obtain⟨la,lc,e3⟩:=hO.form;refine⟨la,lc,?_,?_⟩
   ·rw[←e3];exact World.cell?_setCell_same _ _ _ ((jf t _).trans hc1)
   ·have h9:=hO;unfold yl at h9;rw[e3] at h9;refine(acD h9 h0).turn (fun _=>?_);rcases h9.2 with ⟨e4,_⟩ | ⟨g,c4,cur,e4,_⟩
    ·simp at e4;omega
    ·simp at e4;refine⟨g,e4.1,r g (fun e5=>B ?_)⟩;rw[e3,e4.1];simp[Value.ownBlock,e5]
  ·rw[List.getElem?_set_ne (by omega)] at hy;obtain⟨la,lc,d1,d2,d3⟩:=ab2 hf h hy hv;refine⟨la,lc,?_,d2.turn (fun h0=>?_)⟩
   ·rw[World.cell?_setCell_other _ _ _ _ (fun e=>by have:=congrArg Addr.off e;simp at this;omega)];exact(jf t _).trans d1
   ·obtain⟨g,e2,hg,_⟩:=d3 h0;refine⟨g,e2,(r g (fun e5=>?_)).trans (hs g (by rw[hg];simp) (by rw[hg];simp;exact e))⟩;rw[e5,hrb] at hg;simp at hg
structure xD (K:Nat→Prop)(lo O:Nat)(w5 w:World)(vals:Int)(own:k6)(bv:Value)(bs:List jc):Prop where
 box:w.heap[O]?=some (.cells #[bv,vi vals] 26 (0,0))
 fn:FnO lo own w bv bs
 rooms:z6 own w bv bs
 bel:Below lo w5 w
 lo:lo≤w5.heap.size
 off:∀g,K g→w.heap[g]?=w5.heap[g]?∧3<(own g).1∧g<w5.heap.size
 out:3<(own O).1
theorem xD.keep {K:Nat→Prop}{lo O:Nat}{w5 w w':World}{vals:Int}{own:k6}{bv:Value}{bs:List jc}(h:xD K lo O w5 w vals own bv bs)(hb:Below w.heap.size w w'):xD K lo O w5 w' vals own bv bs :=
 ⟨(hb.block O (aI h.box).1).trans h.box,h.fn.keep hb,h.rooms.same (fun _ h=>h) (fun g hg=>hb.block g hg),h.bel.trans (hb.mono (Nat.le_trans h.lo h.bel.size)),h.lo,fun g hg=>⟨(hb.block g (Nat.lt_of_lt_of_le (h.off g hg).2.2 h.bel.size)).trans (h.off g hg).1,(h.off g hg).2⟩,h.out⟩
theorem xD.congr {K:Nat→Prop}{lo O:Nat}{w5 w:World}{vals:Int}{own:k6}{bv:Value}{bs bs':List jc}(h:xD K lo O w5 w vals own bv bs)(e:bs=bs'):xD K lo O w5 w vals own bv bs':=by rw[←e];exact h
theorem xD.begin {lo O:Nat}{w5 w:World}{vals:Int}{own:k6}{bv:Value}{bs:List jc}{K0:Nat→Prop}(h:xD K0 lo O w5 w vals own bv bs)(K:Nat→Prop)(hK:∀g,K g→3<(own g).1∧g<w.heap.size):xD K lo O w w vals own bv bs :=
 ⟨h.box,h.fn,h.rooms,Below.refl _ _,Nat.le_trans h.lo h.bel.size,fun g hg=>⟨rfl,hK g hg⟩,h.out⟩
theorem xD.back {lo O:Nat}{w5 wX w:World}{vals:Int}{own:k6}{bv:Value}{bs:List jc}{K:Nat→Prop}(h:xD K lo O wX w vals own bv bs)(h5:Below lo w5 wX)(hl:lo≤w5.heap.size):xD (fun _=>False) lo O w5 w vals own bv bs :=
 ⟨h.box,h.fn,h.rooms,h5.trans h.bel,hl,fun g hg=>hg.elim,h.out⟩
theorem xD.drop {K:Nat→Prop}{lo O:Nat}{w5 w:World}{vals:Int}{own:k6}{bs:List jc}{rb roff n cap i:Nat}{x:jc}(h:xD K lo O w5 w vals own (sq rb roff n cap) bs)(hx:bs[i]?=some x):xD K lo O w5 (w.setCell (Z rb (roff+i*6)) (.slice none 0 0)) vals own (sq rb roff n cap) (bs.set i { x with phis := [] }):=by
 obtain⟨B,roff',cap',pv,lv,hv',hb,_⟩:=h.fn.aez hx;simp at hv';obtain⟨⟨rfl,rfl⟩,_⟩:=hv';have t:(own rb).1≤3:=by rw[hb];simp
 have r:∀g,g≠rb→(w.setCell (Z rb (roff+i*6)) (.slice none 0 0)).heap[g]?=w.heap[g]?:=fun g hg=>Below.heap_setCell _ _ _ g hg
 refine⟨(r O (fun e=>by have:=h.out;rw[e] at this;omega)).trans h.box,h.fn.dropPhis hx rfl,h.rooms.put h.fn hx rfl _,h.bel.setCell (p:=(Z rb _)) (h.fn.low rb t) _,h.lo,fun g hg=>?_,h.out⟩;obtain⟨h8,h9,h10⟩:=h.off g hg;exact⟨(r g (fun e=>by rw[e] at h9;omega)).trans h8,h9,h10⟩
theorem xD.add {K:Nat→Prop}{lo O:Nat}{w5 w w':World}{vals:Int}{own:k6}{bs:List jc}{rb roff n cap i:Nat}{x:jc}(h:xD K lo O w5 w vals own (sq rb roff n cap) bs)(hx:bs[i]?=some x){la:Option Addr}{lc:Nat}{v':Value}{y:kS}
  (hla:0<x.list.length→∃g,la=some (Z g 0)∧own g=(2,i,0)) (hO:yl w' lo v' (x.list ++ [y])) (hb:Below lo w w') (hz:w.heap.size≤w'.heap.size) (hsame:∀g,g<w.heap.size→(0<x.list.length→la≠some (Z g 0))→w'.heap[g]?=w.heap[g]?) (hblk:∀g,v'.ownBlock=some g→(0<x.list.length∧la=some (Z g 0))∨w.heap.size≤g) :
  xD K lo O w5 (w'.setCell (Z rb (roff+i*6+1)) v') vals (ad8 own v' i) (sq rb roff n cap) (bs.set i { x with list:=x.list ++ [y] }):=by
 obtain⟨J,roff',cap',pv,lv,hv',hrb,_⟩:=h.fn.aez hx;simp at hv';obtain⟨⟨rfl,rfl⟩,_⟩:=hv'
 have hs:∀g,g<w.heap.size→own g≠(2,i,0)→w'.heap[g]?=w.heap[g]?:=fun g hg I=>hsame g hg (fun h0 e=>by
  obtain⟨g2,e2,h2⟩:=hla h0;rw[e] at e2;simp at e2;rw[←e2] at h2
  exact I h2)
 have r:∀g,v'.ownBlock=some g→own g=(2,i,0)∨w.heap.size≤g:=fun g hg=>by
  rcases hblk g hg with ⟨h0,e⟩ | h1
  ·obtain⟨g2,e2,h2⟩:=hla h0;rw[e] at e2;simp at e2;rw[←e2] at h2;exact .inl h2
  ·exact .inr h1
 have B:∀g,3<(own g).1→g<w.heap.size→w'.heap[g]?=w.heap[g]?∧3<(ad8 own v' i g).1∧g≠rb:=fun g h1 h2=>by
  have t:own g≠(2,i,0):=fun e=>by rw[e] at h1;simp at h1
  refine⟨hs g h2 t,?_,fun e=>by rw[e,hrb] at h1;simp at h1⟩;rw[YY (fun e=>by rcases r g e with h3 | h3;exact t h3;omega) t];exact h1
 have G:∀g,g≠rb→(w'.setCell (Z rb (roff+i*6+1)) v').heap[g]?=w'.heap[g]?:=fun g hg=>Below.heap_setCell _ _ _ g hg
 have H:=B O h.out (aI h.box).1;refine⟨(G O H.2.2).trans (H.1.trans h.box),h.fn.ahx hx rfl hO r (fun g h1 h2=>hs g (h.fn.high g h1) h2) hz,h.rooms.ahx h.fn hx rfl hO (by simp) r (fun g h1 h2=>hs g (h.fn.high g h1) h2),(h.bel.trans hb).setCell (p:=(Z rb _)) (h.fn.low rb (by rw[hrb];simp)) _,h.lo,fun g hg=>?_,H.2.1⟩;obtain⟨h8,h9,h10⟩:=h.off g hg;obtain⟨k1,k2,k3⟩:=B g h9 (Nat.lt_of_lt_of_le h10 h.bel.size);exact⟨((G g k3).trans k1).trans h8,k2,h10⟩
end Go.Proofs.YtkbhbekfniadhaaGreat
