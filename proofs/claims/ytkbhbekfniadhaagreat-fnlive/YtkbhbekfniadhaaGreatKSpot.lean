/- The places of a program's numbers, in the order in which they are marked; and that marks hold where no two places are one. No two places of a program are one, where each list has a block of memory of its own. A program in memory each of whose lists has a block of memory of its own. A program in memory of the call's own: the end of a block is turned, an arm is turned, a block is added. A program in memory of the call's own, whose row of blocks has room: a block is added. Lists of places of the call's own; a block with its list is added to a program. -/
import Derived.Test.YtkbhbekfniadhaaGreatTk0
import Derived.Test.YtkbhbekfniadhaaGreatKTo
import Derived.Laws.OwnMore
namespace Go.Proofs.YtkbhbekfniadhaaGreat
open Go.ChangeShapes Go.WideShapes Go.ChangeAt Go.RowKit
set_option linter.unusedVariables false
end Go.Proofs.YtkbhbekfniadhaaGreat
namespace Go.Proofs.YtkbhbekfniadhaaGreat
open Go.ChangeShapes Go.WideShapes Go.ChangeAt Go.RowKit
set_option linter.unusedVariables false
abbrev k6 := Nat→Nat × Nat × Nat
def kE {α:Type}(S:Nat→Prop)(k:Nat)(E:Nat→World→Nat→Nat→α→Prop)(w:World)(v:Value)(l:List α):Prop :=
 ∃(a:Option Addr) (cap:Nat),v=.slice a l.length cap∧l.length≤9223372036854775807∧(0<l.length→∃b off,a=some (Z b off)∧S b∧∀i x,l[i]?=some x→E i w b (off+i*k) x)
theorem kE.imp {α:Type}{S S':Nat→Prop}{k:Nat}{E E':Nat→World→Nat→Nat→α→Prop}{w w':World}{v:Value}{l:List α}(h:kE S k E w v l)(hS:∀b,S b→S' b)(hE:∀i b o x,S b→l[i]?=some x→E i w b o x→E' i w' b o x):kE S' k E' w' v l:=by
 obtain⟨a,cap,rfl,hm,hc⟩:=h;refine⟨a,cap,rfl,hm,fun hp=>?_⟩;obtain⟨b,off,rfl,hb,hd⟩:=hc hp;exact⟨b,off,rfl,hS b hb,fun i x hi=>hE _ _ _ _ hb hi (hd i x hi)⟩
theorem kE.nil {α:Type}{S:Nat→Prop}{k:Nat}{E:Nat→World→Nat→Nat→α→Prop}{w:World}(a:Option Addr)(c:Nat):kE S k E w (.slice a 0 c) ([]:List α) :=
 ⟨a,c,rfl,by simp,fun h=>absurd h (by simp)⟩
theorem kE.is {α:Type}{S:Nat→Prop}{k:Nat}{E:Nat→World→Nat→Nat→α→Prop}{w:World}{v:Value}{l:List α}(h:kE S k E w v l):∃a cap,v=.slice a l.length cap:=by
 obtain⟨a,cap,rfl,_⟩:=h;exact⟨a,cap,rfl⟩
theorem kE.get {α:Type}{S:Nat→Prop}{k:Nat}{E:Nat→World→Nat→Nat→α→Prop}{w:World}{a:Option Addr}{n cap:Nat}{l:List α}(h:kE S k E w (.slice a n cap) l){i:Nat}{x:α}(hx:l[i]?=some x):∃b off,a=some (Z b off)∧S b∧E i w b (off+i*k) x:=by
 obtain⟨a0,cap0,e,_,hc⟩:=h;simp at e;have hk:=(List.getElem?_eq_some_iff.1 hx).1;obtain⟨b,off,ha,hS,hd⟩:=hc (by omega);exact⟨b,off,e.1.trans ha,hS,hd i x hx⟩
theorem kE.at {α:Type}{S:Nat→Prop}{k:Nat}{E:Nat→World→Nat→Nat→α→Prop}{lo:Nat}{E':World→Nat→Nat→α→Prop}{w:World}{v:Value}{l:List α}(h:kE S k E w v l)(hS:∀b,S b→lo≤b)(hE:∀i b o x,S b→E i w b o x→E' w b o x):jz lo k E' w v l:=by
 obtain⟨a,cap,rfl,hm,hc⟩:=h;refine⟨a,cap,rfl,hm,fun hp=>?_⟩;obtain⟨b,off,rfl,hb,hd⟩:=hc hp;exact⟨b,off,rfl,hS b hb,fun i x hi=>hE _ _ _ _ hb (hd i x hi)⟩
def agk (own:k6)(i j:Nat)(w:World)(b o:Nat)(x:yy):Prop:=w.cell? (Z b o)=some (vi x.d)∧∃av,w.cell? (Z b (o+1))=some av∧kE (fun g=>own g=(3,i,j)) 2 (fun _=>qq) w av x.arms
def BlockO (own:k6)(i:Nat)(w:World)(b o:Nat)(x:jc):Prop :=
 ∃pv lv,w.cell? (Z b o)=some pv∧w.cell? (Z b (o+1))=some lv∧w.cell? (Z b (o+2))=some (vi x.term.k)∧w.cell? (Z b (o+3))=some (vi x.term.a)∧w.cell? (Z b (o+4))=some (vi x.term.t)∧w.cell? (Z b (o+5))=some (vi x.term.e) ∧
  kE (fun g=>own g=(1,i,0)) 2 (agk own i) w pv x.phis∧kE (fun g=>own g=(2,i,0)) 5 (fun _=>jU) w lv x.list
structure FnO (lo:Nat)(own:k6)(w:World)(bv:Value)(bs:List jc):Prop where
 rows:kE (fun g=>own g=(0,0,0)) 6 (BlockO own) w bv bs
 low:∀g,(own g).1≤3→lo≤g
 high:∀g,(own g).1≤3→g<w.heap.size
 aaz:∀g,(own g).1≤3→∀j,w.frozen? (Z g j)=false
theorem jf {w w':World}{g:Nat}(h:w'.heap[g]?=w.heap[g]?)(o:Nat):w'.cell? (Z g o)=w.cell? (Z g o):=by simp only[World.cell?,h]
theorem kQ {w w':World}{g:Nat}(h:w'.heap[g]?=w.heap[g]?)(o:Nat):w'.frozen? (Z g o)=w.frozen? (Z g o):=by simp only[World.frozen?,h]
theorem qq.same {w w':World}{b o:Nat}{x:jy}(h:qq w b o x)(hs:w'.heap[b]?=w.heap[b]?):qq w' b o x:=⟨(jf hs _).trans h.1,(jf hs _).trans h.2⟩
theorem jU.same {w w':World}{b o:Nat}{x:kS}(h:jU w b o x)(hs:w'.heap[b]?=w.heap[b]?):jU w' b o x:=⟨(jf hs _).trans h.1,(jf hs _).trans h.2.1,(jf hs _).trans h.2.2.1,(jf hs _).trans h.2.2.2.1,(jf hs _).trans h.2.2.2.2⟩
theorem ahX {own:k6}{c:Nat × Nat × Nat}{w w':World}{v:Value}{l:List jy}(h:kE (fun g=>own g=c) 2 (fun _=>qq) w v l)(hs:∀g,own g=c→w'.heap[g]?=w.heap[g]?):kE (fun g=>own g=c) 2 (fun _=>qq) w' v l:=h.imp (fun _ h=>h) (fun i b o x hb _ hx=>hx.same (hs b hb))
theorem yj {own:k6}{c:Nat × Nat × Nat}{w w':World}{v:Value}{l:List kS}(h:kE (fun g=>own g=c) 5 (fun _=>jU) w v l)(hs:∀g,own g=c→w'.heap[g]?=w.heap[g]?):kE (fun g=>own g=c) 5 (fun _=>jU) w' v l:=h.imp (fun _ h=>h) (fun i b o x hb _ hx=>hx.same (hs b hb))
theorem agk.same {own:k6}{i j:Nat}{w w':World}{b o:Nat}{x:yy}(h:agk own i j w b o x)(hb:w'.heap[b]?=w.heap[b]?)(hs:∀g,own g=(3,i,j)→w'.heap[g]?=w.heap[g]?):agk own i j w' b o x:=by
 obtain⟨h0,av,h1,h2⟩:=h;exact⟨(jf hb _).trans h0,av,(jf hb _).trans h1,ahX h2 hs⟩
theorem xE {own:k6}{i:Nat}{w w':World}{v:Value}{l:List yy}(h:kE (fun g=>own g=(1,i,0)) 2 (agk own i) w v l)(hb:∀g,own g=(1,i,0)→w'.heap[g]?=w.heap[g]?)(hs:∀g j,own g=(3,i,j)→w'.heap[g]?=w.heap[g]?):kE (fun g=>own g=(1,i,0)) 2 (agk own i) w' v l :=
 h.imp (fun _ h=>h) (fun j b o x hS _ hx=>hx.same (hb b hS) (fun g hg=>hs g j hg))
theorem FnO.same {lo:Nat}{own:k6}{w w':World}{bv:Value}{bs:List jc}(h:FnO lo own w bv bs)(hs:∀g,(own g).1≤3→w'.heap[g]?=w.heap[g]?)(hz:w.heap.size≤w'.heap.size):FnO lo own w' bv bs:=by
 refine⟨h.rows.imp (fun _ h=>h) (fun i b o x hb _ hx=>?_),h.low,fun g hg=>Nat.lt_of_lt_of_le (h.high g hg) hz,fun g hg j=>(kQ (hs g hg) j).trans (h.aaz g hg j)⟩;obtain⟨pv,lv,c0,c1,c2,c3,c4,c5,hp,hl⟩:=hx;have hr:w'.heap[b]?=w.heap[b]?:=hs b (by rw[hb];simp);exact⟨pv,lv,(jf hr _).trans c0,(jf hr _).trans c1,(jf hr _).trans c2,(jf hr _).trans c3,(jf hr _).trans c4,(jf hr _).trans c5,xE hp (fun g hg=>hs g (by rw[hg];simp)) (fun g j hg=>hs g (by rw[hg];simp)),yj hl (fun g hg=>hs g (by rw[hg];simp))⟩
theorem FnO.keep {lo:Nat}{own:k6}{w w':World}{bv:Value}{bs:List jc}(h:FnO lo own w bv bs)(hb:Below w.heap.size w w'):FnO lo own w' bv bs :=
 h.same (fun g hg=>hb.block g (h.high g hg)) hb.size
theorem FnO.blocks {lo:Nat}{own:k6}{w:World}{bv:Value}{bs:List jc}(h:FnO lo own w bv bs):jz lo 6 (qH lo) w bv bs :=
 h.rows.at (fun b hb=>h.low b (by rw[hb];simp)) (fun i b o x hb hx=>by
  obtain⟨pv,lv,c0,c1,c2,c3,c4,c5,hp,hl⟩:=hx
  exact⟨pv,lv,c0,c1,c2,c3,c4,c5,hp.at (fun b hb=>h.low b (by rw[hb];simp)) (fun j b o x hb hx=>by
   obtain⟨h0,av,h1,h2⟩:=hx
   exact⟨h0,av,h1,h2.at (fun b hb=>h.low b (by rw[hb];simp)) (fun _ _ _ _ _ h=>h)⟩),hl.at (fun b hb=>h.low b (by rw[hb];simp)) (fun _ _ _ _ _ h=>h)⟩)
theorem FnO.fnAt {lo:Nat}{own:k6}{w:World}{bv:Value}{F:FnD}(h:FnO lo own w bv F.blocks){vals:Int}(hv:F.values=vals):qt lo w (.agg #[bv,vi vals]) F:=⟨bv,by rw[hv],h.blocks⟩
theorem FnO.low' {lo lo':Nat}{own:k6}{w:World}{bv:Value}{bs:List jc}(h:FnO lo own w bv bs)(hl:lo'≤lo):FnO lo' own w bv bs:=⟨h.rows,fun g hg=>Nat.le_trans hl (h.low g hg),h.high,h.aaz⟩
theorem FnO.list {lo:Nat}{own:k6}{w w':World}{bv:Value}{bs:List jc}(h:FnO lo own w bv bs){i:Nat}{x:jc}(hx:bs[i]?=some x){l':List kS}(hs:∀g,(own g).1≤3→own g≠(2,i,0)→w'.heap[g]?=w.heap[g]?)(hz:w.heap.size≤w'.heap.size)(hf:∀g,own g=(2,i,0)→∀j,w'.frozen? (Z g j)=w.frozen? (Z g j))
  (hl:∀lv,(∀rb roff n cap,bv=sq rb roff n cap→w.cell? (Z rb (roff+i*6+1))=some lv)→kE (fun g=>own g=(2,i,0)) 5 (fun _=>jU) w lv x.list→kE (fun g=>own g=(2,i,0)) 5 (fun _=>jU) w' lv l'):FnO lo own w' bv (bs.set i { x with list:=l' }):=by
 have hi:i<bs.length:=(List.getElem?_eq_some_iff.1 hx).1;refine⟨?_,h.low,fun g hg=>Nat.lt_of_lt_of_le (h.high g hg) hz,fun g hg j=>?_⟩
 ·obtain⟨a,cap,rfl,hm,hc⟩:=h.rows;refine⟨a,cap,by rw[List.length_set],by rw[List.length_set];exact hm,fun hp=>?_⟩;rw[List.length_set] at hp;obtain⟨b,off,rfl,hb,hd⟩:=hc hp;refine⟨b,off,rfl,hb,fun j y hy=>?_⟩;have hr:w'.heap[b]?=w.heap[b]?:=hs b (by rw[hb];simp) (by rw[hb];simp);by_cases e:j=i
  ·subst e;rw[List.getElem?_set_self hi] at hy;cases hy
   obtain⟨pv,lv,c0,c1,c2,c3,c4,c5,hp,hl0⟩:=hd j x hx;exact⟨pv,lv,(jf hr _).trans c0,(jf hr _).trans c1,(jf hr _).trans c2,(jf hr _).trans c3,(jf hr _).trans c4,(jf hr _).trans c5,xE hp (fun g hg=>hs g (by rw[hg];simp) (by rw[hg];simp)) (fun g j hg=>hs g (by rw[hg];simp) (by rw[hg];simp)),hl _ (fun rb roff n cap e=>by simp at e;obtain⟨⟨rfl,rfl⟩,_⟩:=e;exact c1) hl0⟩
  ·rw[List.getElem?_set_ne (by omega)] at hy;obtain⟨pv,lv,c0,c1,c2,c3,c4,c5,hp,hl0⟩:=hd j y hy;exact⟨pv,lv,(jf hr _).trans c0,(jf hr _).trans c1,(jf hr _).trans c2,(jf hr _).trans c3,(jf hr _).trans c4,(jf hr _).trans c5,xE hp (fun g hg=>hs g (by rw[hg];simp) (by rw[hg];simp)) (fun g j hg=>hs g (by rw[hg];simp) (by rw[hg];simp)),yj hl0 (fun g hg=>hs g (by rw[hg];simp) (by rw[hg];simp;omega))⟩
 ·by_cases e:own g=(2,i,0)
  ·exact(hf g e j).trans (h.aaz g hg j)
  ·exact(kQ (hs g hg e) j).trans (h.aaz g hg j)
def qj (w:World)(b o:Nat)(y:kS):World:=((((w.setCell (Z b o) (vi y.op)).setCell (Z b (o+1)) (vi y.d)).setCell (Z b (o+2)) (vi y.a)).setCell (Z b (o+3)) (vi y.b)).setCell (Z b (o+4)) (vi y.n)
theorem adD {w:World}{b o:Nat}{y:kS}{g:Nat}(h:g≠b):(qj w b o y).heap[g]?=w.heap[g]?:=by
 unfold qj;simp only[Below.heap_setCell _ _ _ _ (show g≠((Z b _):Addr).block from h)]
theorem aex (w:World)(b o:Nat)(y:kS):(qj w b o y).heap.size=w.heap.size:=by simp[qj]
theorem acs (w:World)(b o:Nat)(y:kS)(p:Addr):(qj w b o y).frozen? p=w.frozen? p:=by simp[qj]
theorem aey {w:World}{b o o':Nat}{y:kS}(h:o'<o∨o+5≤o'):(qj w b o y).cell? (Z b o')=w.cell? (Z b o'):=by
 have r:∀c,c<5→((Z b (o+c)):Addr)≠(Z b o'):=fun c hc e=>by have:=congrArg Addr.off e;simp at this;omega
 have h0:((Z b o):Addr)≠(Z b o'):=r 0 (by omega);unfold qj;rw[World.cell?_setCell_other _ _ _ _ (r 4 (by omega)),World.cell?_setCell_other _ _ _ _ (r 3 (by omega)),World.cell?_setCell_other _ _ _ _ (r 2 (by omega)),World.cell?_setCell_other _ _ _ _ (r 1 (by omega)),World.cell?_setCell_other _ _ _ _ h0]
theorem ahY {w:World}{b o:Nat}{x:kS}(h:jU w b o x)(y:kS):jU (qj w b o y) b o y:=by
 obtain⟨h0,h1,h2,h3,h4⟩:=h;unfold qj;refine⟨?_,?_,?_,?_,?_⟩
 ·rw[World.cell?_setCell_other _ _ _ _ (by simp),World.cell?_setCell_other _ _ _ _ (by simp),World.cell?_setCell_other _ _ _ _ (by simp),World.cell?_setCell_other _ _ _ _ (by simp)];exact World.cell?_setCell_same _ _ _ h0
 ·rw[World.cell?_setCell_other _ _ _ _ (by simp),World.cell?_setCell_other _ _ _ _ (by simp),World.cell?_setCell_other _ _ _ _ (by simp)];exact World.cell?_setCell_same _ _ _ ((World.cell?_setCell_other _ _ _ _ (by simp)).trans h1)
 ·rw[World.cell?_setCell_other _ _ _ _ (by simp),World.cell?_setCell_other _ _ _ _ (by simp)];exact World.cell?_setCell_same _ _ _ ((World.cell?_setCell_other _ _ _ _ (by simp)).trans ((World.cell?_setCell_other _ _ _ _ (by simp)).trans h2))
 ·rw[World.cell?_setCell_other _ _ _ _ (by simp)];exact World.cell?_setCell_same _ _ _ ((World.cell?_setCell_other _ _ _ _ (by simp)).trans ((World.cell?_setCell_other _ _ _ _ (by simp)).trans ((World.cell?_setCell_other _ _ _ _ (by simp)).trans h3)))
 ·exact World.cell?_setCell_same _ _ _ ((World.cell?_setCell_other _ _ _ _ (by simp)).trans ((World.cell?_setCell_other _ _ _ _ (by simp)).trans ((World.cell?_setCell_other _ _ _ _ (by simp)).trans ((World.cell?_setCell_other _ _ _ _ (by simp)).trans h4))))
theorem FnO.puts {lo:Nat}{own:k6}{w:World}{bv:Value}{bs:List jc}(h:FnO lo own w bv bs){i k:Nat}{x:jc}(hx:bs[i]?=some x){z:kS}(hz:x.list[k]?=some z){rb roff lb loff n cap lcap m:Nat}(hv:bv=.slice (some (Z rb roff)) n cap)
  (hlv:w.cell? (Z rb (roff+i*6+1))=some (.slice (some (Z lb loff)) m lcap)) (y:kS):FnO lo own (qj w lb (loff+k*5) y) bv (bs.set i { x with list:=x.list.set k y }):=by
 have hk:=(List.getElem?_eq_some_iff.1 hz).1;have r:own lb=(2,i,0)∧kE (fun g=>own g=(2,i,0)) 5 (fun _=>jU) w (.slice (some (Z lb loff)) m lcap) x.list:=by
  have hr:=h.rows;rw[hv] at hr;obtain⟨b,off,e,hb,pv,lv,c0,c1,c2,c3,c4,c5,hp,hl⟩:=hr.get hx;simp at e;obtain⟨rfl,rfl⟩:=e;have e2:=c1.symm.trans hlv;simp at e2;subst e2;obtain⟨b2,off2,e3,hb2,_⟩:=hl.get hz;simp at e3;obtain⟨rfl,rfl⟩:=e3;exact⟨hb2,hl⟩
 refine h.list hx (fun g hg t=>adD (fun e=>t (by rw[e];exact r.1))) (by rw[aex];exact Nat.le_refl _) (fun g hg j=>acs _ _ _ _ _) (fun lv hc hl=>?_);have e2:=(hc _ _ _ _ hv).symm.trans hlv;simp at e2;subst e2;obtain⟨a,cap0,e3,hm,hcc⟩:=hl;simp at e3;obtain⟨e3,e4,e5⟩:=e3;refine⟨a,cap0,by rw[List.length_set,e3,e4,e5],by rw[List.length_set];exact hm,fun hp=>?_⟩;rw[List.length_set] at hp;obtain⟨b2,off2,ha,hb2,hd⟩:=hcc hp;rw[ha] at e3;simp at e3;obtain⟨rfl,rfl⟩:=e3;refine⟨_,_,ha,hb2,fun q u hu=>?_⟩;by_cases e:q=k
 ·subst e;rw[List.getElem?_set_self hk] at hu;cases hu
  exact ahY (hd _ _ hz) y
 ·rw[List.getElem?_set_ne (by omega)] at hu;obtain⟨q0,q1,q2,q3,q4⟩:=hd _ _ hu;have hq:∀c,c<5→(qj w lb (loff+k*5) y).cell? (Z lb (loff+q*5+c))=w.cell? (Z lb (loff+q*5+c)):=fun c hc=>aey (by omega)
  exact⟨(hq 0 (by omega)).trans q0,(hq 1 (by omega)).trans q1,(hq 2 (by omega)).trans q2,(hq 3 (by omega)).trans q3,(hq 4 (by omega)).trans q4⟩
theorem FnO.turnEnd {lo:Nat}{own:k6}{w w':World}{bv:Value}{bs:List jc}(h:FnO lo own w bv bs){i:Nat}{x:jc}(hx:bs[i]?=some x)(t:QY){rb roff n cap:Nat}(hv:bv=sq rb roff n cap)
  (hs:∀g,g≠rb→w'.heap[g]?=w.heap[g]?) (hz:w.heap.size≤w'.heap.size) (hf:∀p,w'.frozen? p=w.frozen? p) (hc:∀o,(o<roff+i*6+2∨roff+i*6+6≤o)→w'.cell? (Z rb o)=w.cell? (Z rb o))
  (h2:w'.cell? (Z rb (roff+i*6+2))=some (vi t.k)) (h3:w'.cell? (Z rb (roff+i*6+3))=some (vi t.a)) (h4:w'.cell? (Z rb (roff+i*6+4))=some (vi t.t)) (h5:w'.cell? (Z rb (roff+i*6+5))=some (vi t.e)):FnO lo own w' bv (bs.set i { x with term:=t }):=by
 have hi:i<bs.length:=(List.getElem?_eq_some_iff.1 hx).1;refine⟨?_,h.low,fun g hg=>Nat.lt_of_lt_of_le (h.high g hg) hz,fun g hg j=>(hf _).trans (h.aaz g hg j)⟩;obtain⟨a,cap0,e0,hm,hcc⟩:=h.rows;refine⟨a,cap0,by rw[List.length_set];exact e0,by rw[List.length_set];exact hm,fun hp=>?_⟩;rw[List.length_set] at hp;obtain⟨b,off,ha,hb,hd⟩:=hcc hp;have e1:=e0.symm.trans hv;rw[ha] at e1;simp at e1;obtain⟨⟨rfl,rfl⟩,_⟩:=e1;have r:∀g,own g≠(0,0,0)→w'.heap[g]?=w.heap[g]?:=fun g hg=>hs g (fun e=>hg (by rw[e];exact hb))
 refine⟨b,off,ha,hb,fun j y hy=>?_⟩;by_cases e:j=i
 ·subst e;rw[List.getElem?_set_self hi] at hy;cases hy
  obtain⟨pv,lv,c0,c1,_,_,_,_,hp,hl⟩:=hd j x hx;refine⟨pv,lv,(hc _ (by omega)).trans c0,(hc _ (by omega)).trans c1,h2,h3,h4,h5,xE hp (fun g hg=>r g (by rw[hg];simp)) (fun g j hg=>r g (by rw[hg];simp)),yj hl (fun g hg=>r g (by rw[hg];simp))⟩
 ·rw[List.getElem?_set_ne (by omega)] at hy;obtain⟨pv,lv,c0,c1,c2,c3,c4,c5,hp,hl⟩:=hd j y hy;refine⟨pv,lv,(hc _ (by omega)).trans c0,(hc _ (by omega)).trans c1,(hc _ (by omega)).trans c2,(hc _ (by omega)).trans c3,(hc _ (by omega)).trans c4,(hc _ (by omega)).trans c5,xE hp (fun g hg=>r g (by rw[hg];simp)) (fun g j hg=>r g (by rw[hg];simp)),yj hl (fun g hg=>r g (by rw[hg];simp))⟩
theorem FnO.aez {lo:Nat}{own:k6}{w:World}{bv:Value}{bs:List jc}(h:FnO lo own w bv bs){i:Nat}{x:jc}(hx:bs[i]?=some x):∃rb roff cap pv lv,bv=sq rb roff bs.length cap∧own rb=(0,0,0)∧w.cell? (Z rb (roff+i*6))=some pv∧w.cell? (Z rb (roff+i*6+1))=some lv∧w.cell? (Z rb (roff+i*6+2))=some (vi x.term.k)∧w.cell? (Z rb (roff+i*6+3))=some (vi x.term.a)∧w.cell? (Z rb (roff+i*6+4))=some (vi x.term.t)∧w.cell? (Z rb (roff+i*6+5))=some (vi x.term.e)∧kE (fun g=>own g=(1,i,0)) 2 (agk own i) w pv x.phis∧kE (fun g=>own g=(2,i,0)) 5 (fun _=>jU) w lv x.list∧∀o,w.frozen? (Z rb o)=false:=by
 have hi:i<bs.length:=(List.getElem?_eq_some_iff.1 hx).1;obtain⟨a,cap0,e0,hm,hcc⟩:=h.rows;obtain⟨b,off,ha,hb,hd⟩:=hcc (by omega);obtain⟨pv,lv,c0,c1,c2,c3,c4,c5,hp,hl⟩:=hd i x hx;exact⟨b,off,cap0,pv,lv,by rw[e0,ha],hb,c0,c1,c2,c3,c4,c5,hp,hl,h.aaz b (by rw[hb];simp)⟩
def yK (w:World)(b o:Nat)(t:QY):World:=(((w.setCell (Z b o) (vi t.k)).setCell (Z b (o+1)) (vi t.a)).setCell (Z b (o+2)) (vi t.t)).setCell (Z b (o+3)) (vi t.e)
theorem FnO.putTerm {lo:Nat}{own:k6}{w:World}{bv:Value}{bs:List jc}(h:FnO lo own w bv bs){i:Nat}{x:jc}(hx:bs[i]?=some x){rb roff n cap:Nat}(hv:bv=sq rb roff n cap)(t:QY):FnO lo own (yK w rb (roff+i*6+2) t) bv (bs.set i { x with term:=t }):=by
 obtain⟨r,roff',cap',pv,lv,hv',hb,c0,c1,c2,c3,c4,c5,_⟩:=h.aez hx;rw[hv] at hv';simp at hv';obtain⟨⟨rfl,rfl⟩,_⟩:=hv';have other:∀o,(o<roff+i*6+2∨roff+i*6+6≤o)→(yK w rb (roff+i*6+2) t).cell? (Z rb o)=w.cell? (Z rb o):=fun o ho=>by
  unfold yK;rw[World.cell?_setCell_other _ _ _ _ (by simp <;> omega),World.cell?_setCell_other _ _ _ _ (by simp <;> omega),World.cell?_setCell_other _ _ _ _ (by simp <;> omega),World.cell?_setCell_other _ _ _ _ (by simp <;> omega)]
 refine h.turnEnd hx _ hv (fun g hg=>?_) (by simp[yK]) (fun p=>by simp[yK]) other ?_ ?_ ?_ ?_
 ·unfold yK;simp only[Below.heap_setCell _ _ _ _ (show g≠((Z rb _):Addr).block from hg)]
 ·unfold yK;rw[World.cell?_setCell_other _ _ _ _ (by simp),World.cell?_setCell_other _ _ _ _ (by simp),World.cell?_setCell_other _ _ _ _ (by simp)];exact World.cell?_setCell_same _ _ _ c2
 ·unfold yK;rw[World.cell?_setCell_other _ _ _ _ (by simp),World.cell?_setCell_other _ _ _ _ (by simp)];exact World.cell?_setCell_same _ _ _ ((World.cell?_setCell_other _ _ _ _ (by simp)).trans c3)
 ·unfold yK;rw[World.cell?_setCell_other _ _ _ _ (by simp)];exact World.cell?_setCell_same _ _ _ ((World.cell?_setCell_other _ _ _ _ (by simp)).trans ((World.cell?_setCell_other _ _ _ _ (by simp)).trans c4))
 ·unfold yK;exact World.cell?_setCell_same _ _ _ ((World.cell?_setCell_other _ _ _ _ (by simp)).trans ((World.cell?_setCell_other _ _ _ _ (by simp)).trans ((World.cell?_setCell_other _ _ _ _ (by simp)).trans c5)))
theorem FnO.putArm {lo:Nat}{own:k6}{w:World}{bv:Value}{bs:List jc}(h:FnO lo own w bv bs){i k j:Nat}{x:jc}(hx:bs[i]?=some x){p:yy}(hp:x.phis[k]?=some p){a:jy}(ha:p.arms[j]?=some a)(y:Int) :
  ∃ab aoff,(own ab=(3,i,k)∧(∀rb roff n cap pb poff pn pcap,bv=sq rb roff n cap→w.cell? (Z rb (roff+i*6))=some (sq pb poff pn pcap)→∃an acap,w.cell? (Z pb (poff+k*2+1))=some (sq ab aoff an acap)))∧w.cell? (Z ab (aoff+j*2))=some (vi a.fr)∧w.frozen? (Z ab (aoff+j*2))=false∧FnO lo own (w.setCell (Z ab (aoff+j*2)) (vi y)) bv (bs.set i { x with phis:=x.phis.set k { p with arms:=p.arms.set j { a with fr:=y } } }):=by
 have hi:i<bs.length:=(List.getElem?_eq_some_iff.1 hx).1;have hk:k<x.phis.length:=(List.getElem?_eq_some_iff.1 hp).1;have hj:j<p.arms.length:=(List.getElem?_eq_some_iff.1 ha).1;obtain⟨rb,roff,rcap,pv,lv,hv,hrb,c0,c1,c2,c3,c4,c5,hps,hls,_⟩:=h.aez hx;obtain⟨pa,pcap,rfl,hpm,hpc⟩:=hps;obtain⟨pb,poff,rfl,hpb,hpd⟩:=hpc (by omega);obtain⟨p0,av,p1,hav⟩:=hpd k p hp;obtain⟨aa,acap,rfl,ham,hac⟩:=hav;obtain⟨ab,aoff,rfl,hab,had⟩:=hac (by omega);have t:=had j a ha;have J:∀o,w.frozen? (Z ab o)=false:=h.aaz ab (by rw[hab];simp);refine⟨ab,aoff,⟨hab,fun O I n' cap' L H M G e1 e2=>?_⟩,t.1,J _,?_⟩
 ·rw[hv] at e1;simp at e1;obtain⟨⟨rfl,rfl⟩,_⟩:=e1;rw[c0] at e2;simp at e2;obtain⟨⟨rfl,rfl⟩,_⟩:=e2;exact⟨_,_,p1⟩
 ·have hs:∀g,own g≠(3,i,k)→(w.setCell (Z ab (aoff+j*2)) (vi y)).heap[g]?=w.heap[g]?:=fun g hg=>Below.heap_setCell _ _ _ g (fun e=>hg (by rw[e];exact hab))
  refine⟨?_,h.low,fun g hg=>by simpa using h.high g hg,fun g hg o=>by simpa using h.aaz g hg o⟩;refine⟨some (Z rb roff),rcap,by rw[List.length_set];exact hv,?_,fun _=>⟨rb,roff,rfl,hrb,fun q z hq=>?_⟩⟩
  ·obtain⟨_,_,e,hm,_⟩:=h.rows;rw[List.length_set];exact hm
  ·have hr:(w.setCell (Z ab (aoff+j*2)) (vi y)).heap[rb]?=w.heap[rb]?:=hs rb (by rw[hrb];simp);by_cases e:q=i
   ·subst e;rw[List.getElem?_set_self hi] at hq;cases hq
    refine⟨_,lv,(jf hr _).trans c0,(jf hr _).trans c1,(jf hr _).trans c2,(jf hr _).trans c3,(jf hr _).trans c4,(jf hr _).trans c5,?_,yj hls (fun g hg=>hs g (by rw[hg];simp))⟩;refine⟨some (Z pb poff),pcap,by rw[List.length_set],by rw[List.length_set];exact hpm,fun _=>⟨pb,poff,rfl,hpb,fun u r hu=>?_⟩⟩;have B:(w.setCell (Z ab (aoff+j*2)) (vi y)).heap[pb]?=w.heap[pb]?:=hs pb (by rw[hpb];simp);by_cases e2:u=k
    ·subst e2;rw[List.getElem?_set_self hk] at hu;cases hu
     refine⟨(jf B _).trans p0,_,(jf B _).trans p1,some (Z ab aoff),acap,by rw[List.length_set],by rw[List.length_set];exact ham,fun _=>⟨ab,aoff,rfl,hab,fun s z hz=>?_⟩⟩;by_cases e3:s=j
     ·subst e3;rw[List.getElem?_set_self hj] at hz;cases hz
      exact⟨World.cell?_setCell_same _ _ _ t.1,(World.cell?_setCell_other _ _ _ _ (by simp)).trans t.2⟩
     ·rw[List.getElem?_set_ne (by omega)] at hz;have h9:=had s z hz;exact⟨(World.cell?_setCell_other _ _ _ _ (by simp <;> omega)).trans h9.1,(World.cell?_setCell_other _ _ _ _ (by simp <;> omega)).trans h9.2⟩
    ·rw[List.getElem?_set_ne (by omega)] at hu;exact(hpd u r hu).same B (fun g hg=>hs g (by rw[hg];simp;omega))
   ·rw[List.getElem?_set_ne (by omega)] at hq;obtain⟨_,_,e5,_,hcc⟩:=h.rows;rw[hv] at e5;simp at e5;obtain⟨b5,o5,e6,_,hd⟩:=hcc (by omega);rw[←e5.1] at e6;simp at e6;obtain⟨rfl,rfl⟩:=e6;obtain⟨K,lv',d0,d1,d2,d3,d4,d5,hp',hl'⟩:=hd q z hq;exact⟨K,lv',(jf hr _).trans d0,(jf hr _).trans d1,(jf hr _).trans d2,(jf hr _).trans d3,(jf hr _).trans d4,(jf hr _).trans d5,xE hp' (fun g hg=>hs g (by rw[hg];simp)) (fun g j' hg=>hs g (by rw[hg];simp;omega)),yj hl' (fun g hg=>hs g (by rw[hg];simp))⟩
theorem Xu {w:World}{lo g n cap s:Nat}{T:TypeId}{xs:List Value}(h:w.ownsRow lo T s (sq g 0 n cap) n xs){j:Nat}{u:Value}(hu:xs[j]?=some u):w.cell? (Z g j)=some u:=by
 rcases h with ⟨hl,⟨h0,_⟩ | ⟨g',cap',cur,hv,_,hg,h1,h2,h3,h4⟩⟩
 ·cases h0
 ·cases hv
  have hj:j<xs.length:=(List.getElem?_eq_some_iff.1 hu).1;rw[←h4,List.getElem?_take,if_pos (by omega)] at hu;have r:j<cur.size:=by
   have:=(List.getElem?_eq_some_iff.1 hu).1;simpa using this
  simp[World.cell?,hg,r];simpa [r] using hu
def kI (own:k6)(w:World)(lo:Nat)(bv:Value)(n:Nat):Prop:=(bv=.slice none 0 0∧n=0)∨∃g cap cur,bv=sq g 0 n cap∧own g=(0,0,0)∧lo≤g∧w.heap[g]?=some (.cells cur 43 (0,0))∧n≤cap∧cap≤maxLen∧cur.size=cap*6
theorem kI.keep {own:k6}{w w':World}{lo:Nat}{bv:Value}{n:Nat}(h:kI own w lo bv n)(hb:Below w.heap.size w w'):kI own w' lo bv n:=by
 rcases h with h | ⟨g,cap,cur,h1,h2,h3,h4,h5⟩
 ·exact .inl h
 ·exact .inr ⟨g,cap,cur,h1,h2,h3,(hb.block g (aI h4).1).trans h4,h5⟩
theorem kI.set {own:k6}{w:World}{lo:Nat}{bv:Value}{n:Nat}(h:kI own w lo bv n)(b o:Nat)(v:Value):kI own (w.setCell (Z b o) v) lo bv n:=by
 rcases h with h | ⟨g,cap,cur,h1,h2,h3,h4,h5,h6,h7⟩
 ·exact .inl h
 ·by_cases e:g=b
  ·subst e;refine .inr ⟨g,cap,cur.setIfInBounds o v,h1,h2,h3,?_,h5,h6,by simpa using h7⟩;obtain⟨hl,hk⟩:=aI h4;show(w.heap.modify g _)[g]?=_;rw[Array.getElem?_eq_getElem (by rw[Array.size_modify];exact hl),Array.getElem_modify_self,hk]
   rfl
  ·exact .inr ⟨g,cap,cur,h1,h2,h3,(Below.heap_setCell _ _ _ g e).trans h4,h5,h6,h7⟩
theorem kI.owns {own:k6}{w:World}{lo:Nat}{bv:Value}{n:Nat}(h:kI own w lo bv n):∃xs,w.ownsRow lo 43 6 bv n xs:=by
 rcases h with ⟨rfl,rfl⟩ | ⟨g,cap,cur,rfl,h2,h3,h4,h5,h6,h7⟩
 ·exact⟨[],by simp,.inl ⟨rfl,rfl⟩⟩
 ·refine⟨cur.toList.take (n*6),?_,.inr ⟨g,cap,cur,rfl,h3,h4,h5,h6,h7,rfl⟩⟩;rw[List.length_take,Array.length_toList,h7];exact Nat.min_eq_left (Nat.mul_le_mul_right 6 h5)
theorem kI.of {own:k6}{w:World}{lo:Nat}{bv:Value}{n:Nat}{xs:List Value}(h:w.ownsRow lo 43 6 bv n xs)(ho:∀g,bv.ownBlock=some g→own g=(0,0,0)):kI own w lo bv n:=by
 rcases h.2 with h0 | ⟨g,cap,cur,rfl,h1,h2,h3,h4,h5,_⟩
 ·exact .inl h0
 ·exact .inr ⟨g,cap,cur,rfl,ho g rfl,h1,h2,h3,h4,h5⟩
theorem kI.low {own:k6}{w:World}{lo lo':Nat}{bv:Value}{n:Nat}(h:kI own w lo bv n)(hl:lo'≤lo):kI own w lo' bv n:=by
 rcases h with h | ⟨g,cap,cur,h1,h2,h3,h4⟩
 ·exact .inl h
 ·exact .inr ⟨g,cap,cur,h1,h2,Nat.le_trans hl h3,h4⟩
theorem kI.blk {own:k6}{w:World}{lo:Nat}{bv:Value}{n:Nat}(h:kI own w lo bv n){g:Nat}(hg:bv.ownBlock=some g):own g=(0,0,0):=by
 rcases h with ⟨rfl,rfl⟩ | ⟨g',cap,cur,rfl,h2,_⟩
 ·simp[Value.ownBlock] at hg
 ·simp[Value.ownBlock] at hg;rw[←hg];exact h2
def rowAt (own:k6)(g:Nat):k6:=fun b=>if b=g then(0,0,0) else if own b=(0,0,0) then(4,0,0) else own b
theorem XZ {own:k6}{g:Nat}{b:Nat}{c:Nat × Nat × Nat}(hc:own b=c)(h0:c≠(0,0,0))(hb:b≠g):rowAt own g b=c:=by
 unfold rowAt;rw[if_neg hb,if_neg (by rw[hc];exact h0)];exact hc
theorem aau {own:k6}{g b:Nat}(h:3<(own b).1)(hb:b≠g):3<(rowAt own g b).1:=by
 unfold rowAt;rw[if_neg hb];split
 ·simp
 ·exact h
theorem FnO.snoc {lo:Nat}{own:k6}{w w':World}{bv v':Value}{bs:List jc}{xs:List Value}(h:FnO lo own w bv bs)(hr:kI own w lo bv bs.length)(hxs:w.ownsRow lo 43 6 bv bs.length xs)(t:QY)
  (hown:w'.ownsRow lo 43 6 v' (bs.length+1) (xs ++ [.slice none 0 0,.slice none 0 0,vi t.k,vi t.a,vi t.t,vi t.e])) (hg:w.grownBy w' bv.ownBlock) (ho:v'.ownBlock=bv.ownBlock∨v'.ownBlock=some w.heap.size) (hm:bs.length≤1000000) :
  ∃g',v'.ownBlock=some g'∧(own g'=(0,0,0)∨g'=w.heap.size)∧FnO lo (rowAt own g') w' v' (bs ++ [⟨[],[],t⟩])∧kI (rowAt own g') w' lo v' (bs.length+1):=by
 obtain⟨g,cap,cur,hv,hlo,hgc,h1,h2,h3,h4⟩:∃g cap cur,v'=sq g 0 (bs.length+1) cap∧lo≤g∧w'.heap[g]?=some (.cells cur 43 (0,0))∧bs.length+1≤cap∧cap≤maxLen∧cur.size=cap*6∧cur.toList.take ((bs.length+1)*6)=xs ++ [.slice none 0 0,.slice none 0 0,vi t.k,vi t.a,vi t.t,vi t.e]:=by
  rcases hown.2 with ⟨_,h0⟩ | h0
  ·omega
  ·exact h0
 subst hv;have G:own g=(0,0,0)∨g=w.heap.size:=by
  rcases ho with e | e
  ·exact .inl (hr.blk (e.symm.trans rfl))
  ·simp[Value.ownBlock] at e;exact .inr e
 have B:∀b c,own b=c→c≠(0,0,0)→c.1≤3→b≠g:=fun b c hc h0 h3 e=>by
  subst e;rcases G with h9 | h9
  ·rw[hc] at h9;exact h0 h9
  ·have:=h.high b (by rw[hc];exact h3);omega
 have r:∀b c,own b=c→c≠(0,0,0)→c.1≤3→w'.heap[b]?=w.heap[b]?:=fun b c hc h0 h3=>hg.block b (h.high b (by rw[hc];exact h3)) (fun e=>by
  have:=hr.blk e.symm;rw[hc] at this
  exact h0 this)
 have hlen:xs.length=bs.length*6:=hxs.1;have I:∀j u,(xs ++ [.slice none 0 0,.slice none 0 0,vi t.k,vi t.a,vi t.t,vi t.e])[j]?=some u→w'.cell? (Z g j)=some u:=fun j u hu=>Xu hown hu
 have hold:∀i c,i<bs.length→c<6→∀rb kc u,bv=sq rb 0 bs.length kc→w.cell? (Z rb (i*6+c))=some u→w'.cell? (Z g (i*6+c))=some u:=fun i c hi hc rb kc u e hu=>by
  have H:i*6+c<xs.length:=by omega
  obtain⟨z,hz⟩:∃z,xs[i*6+c]?=some z:=⟨xs[i*6+c],List.getElem?_eq_getElem H⟩;rw[e] at hxs;have h9:=Xu hxs hz;rw[h9] at hu;cases hu
  exact I _ _ (by rw[List.getElem?_append_left H];exact hz)
 refine⟨g,rfl,G,⟨?_,fun b hb=>?_,fun b hb=>?_,fun b hb j=>?_⟩,.inr ⟨g,cap,cur,rfl,by simp[rowAt],hlo,hgc,h1,h2,h3⟩⟩
 ·refine⟨some (Z g 0),cap,by simp,by simp;omega,fun _=>⟨g,0,rfl,by simp[rowAt],fun i y hy=>?_⟩⟩;rw[Nat.zero_add];by_cases hi:i<bs.length
  ·rw[List.getElem?_append_left hi] at hy;obtain⟨rb,roff,rcap,pv,lv,hv,hrb,c0,c1,c2,c3,c4,c5,hp,hl,_⟩:=h.aez hy;have K:roff=0:=by
    rcases hr with ⟨e,_⟩ | ⟨g1,cap1,cur1,e,_⟩
    ·rw[hv] at e;cases e
    ·rw[hv] at e;simp at e;exact e.1.2
   subst K;simp only[Nat.zero_add] at c0 c1 c2 c3 c4 c5;have sp:∀b,own b=(1,i,0)→w'.heap[b]?=w.heap[b]?:=fun b hb=>r b _ hb (by simp) (by simp)
   have sl:∀b,own b=(2,i,0)→w'.heap[b]?=w.heap[b]?:=fun b hb=>r b _ hb (by simp) (by simp)
   have sa:∀b j,own b=(3,i,j)→w'.heap[b]?=w.heap[b]?:=fun b j hb=>r b _ hb (by simp) (by simp)
   refine⟨pv,lv,hold i 0 hi (by omega) rb rcap _ hv c0,hold i 1 hi (by omega) rb rcap _ hv c1,hold i 2 hi (by omega) rb rcap _ hv c2,hold i 3 hi (by omega) rb rcap _ hv c3,hold i 4 hi (by omega) rb rcap _ hv c4,hold i 5 hi (by omega) rb rcap _ hv c5,?_,?_⟩
   ·refine(xE hp sp sa).imp (fun b hb=>XZ hb (by simp) (B b _ hb (by simp) (by simp))) (fun q b o z hb _ hz=>?_);obtain⟨q0,av,q1,q2⟩:=hz;exact⟨q0,av,q1,q2.imp (fun b hb=>XZ hb (by simp) (B b _ hb (by simp) (by simp))) (fun _ _ _ _ _ _ h=>h)⟩
   ·exact(yj hl sl).imp (fun b hb=>XZ hb (by simp) (B b _ hb (by simp) (by simp))) (fun _ _ _ _ _ _ h=>h)
  ·have J:i=bs.length:=by
    have:=(List.getElem?_eq_some_iff.1 hy).1;simp at this;omega
   subst J;simp at hy;subst hy;have nw:∀c u,([.slice none 0 0,.slice none 0 0,vi t.k,vi t.a,vi t.t,vi t.e]:List Value)[c]?=some u→w'.cell? (Z g (bs.length*6+c))=some u:=fun c u hu=>I _ _ (by rw[List.getElem?_append_right (by omega),show bs.length*6+c-xs.length=c by omega];exact hu)
   exact⟨_,_,nw 0 _ rfl,nw 1 _ rfl,nw 2 _ rfl,nw 3 _ rfl,nw 4 _ rfl,nw 5 _ rfl,kE.nil _ _,kE.nil _ _⟩
 ·unfold rowAt at hb;split at hb
  ·rename_i e;rw[e];exact hlo
  ·split at hb
   ·simp at hb
   ·exact h.low b hb
 ·unfold rowAt at hb;split at hb
  ·rename_i e;rw[e];exact(aI hgc).1
  ·split at hb
   ·simp at hb
   ·exact Nat.lt_of_lt_of_le (h.high b hb) hg.size
 ·unfold rowAt at hb;split at hb
  ·rename_i e;rw[e];simp[World.frozen?,hgc]
  ·split at hb
   ·simp at hb
   ·rename_i e1 e2
    exact(kQ (r b _ rfl e2 hb) j).trans (h.aaz b hb j)
def GivesOR (w:World)(F:FnD)(e:Ending)(w':World):Prop := ∃bv own,e=.returned (.agg #[bv,vi F.values])∧FnO w.heap.size own w' bv F.blocks∧kI own w' w.heap.size bv F.blocks.length∧Below w.heap.size w w'
def agn (l:List kS):List Value:=l.flatMap (fun x=>[vi x.op,vi x.d,vi x.a,vi x.b,vi x.n])
theorem afc (l:List kS):(agn l).length=l.length*5:=by
 induction l with
 | nil=>rfl
 | cons x l ih=>
  show(_ ++ agn l).length=_;rw[List.length_append,ih,List.length_cons];simp;omega
theorem ahZ (l:List kS)(x:kS):agn (l ++ [x])=agn l ++ [vi x.op,vi x.d,vi x.a,vi x.b,vi x.n]:=by simp[agn]
theorem ah0 (x:kS)(l:List kS):agn (x::l) = [vi x.op,vi x.d,vi x.a,vi x.b,vi x.n] ++ agn l:=rfl
theorem afd {l:List kS}{i:Nat}{x:kS}(hx:l[i]?=some x){c:Nat}(hc:c<5):(agn l)[i*5+c]? = [vi x.op,vi x.d,vi x.a,vi x.b,vi x.n][c]?:=by
 induction l generalizing i with
 | nil=>simp at hx
 | cons y l ih=>
  rw[ah0];cases i with
  | zero=>
   simp at hx;subst hx;rw[List.getElem?_append_left (by simp;omega)];simp
  | succ i=>
   simp at hx;rw[List.getElem?_append_right (by simp;omega),←ih hx]
   congr 1
   simp;omega
def yl (w:World)(lo:Nat)(v:Value)(l:List kS):Prop:=w.ownsRow lo 47 5 v l.length (agn l)
theorem yl.lt {w:World}{lo:Nat}{v:Value}{l:List kS}(h:yl w lo v l){g:Nat}(hg:v.ownBlock=some g):lo≤g∧g<w.heap.size∧∀j,w.frozen? (Z g j)=false:=by
 rcases h.2 with ⟨rfl,_⟩ | ⟨g',cap,cur,rfl,hlo,hh,_⟩
 ·simp[Value.ownBlock] at hg
 ·simp[Value.ownBlock] at hg;subst hg;exact⟨hlo,(aI hh).1,fun j=>by simp[World.frozen?,hh]⟩
theorem yl.low {w:World}{lo lo':Nat}{v:Value}{l:List kS}(h:yl w lo v l)(hl:lo'≤lo):yl w lo' v l:=by
 obtain⟨h0,h1⟩:=h;refine⟨h0,?_⟩;rcases h1 with h1 | ⟨g,cap,cur,rfl,hlo,h2⟩
 ·exact .inl h1
 ·exact .inr ⟨g,cap,cur,rfl,by omega,h2⟩
theorem yl.form {w:World}{lo:Nat}{v:Value}{l:List kS}(h:yl w lo v l):∃a c,v=.slice a l.length c:=by
 rcases h.2 with ⟨rfl,h0⟩ | ⟨g,cap,cur,rfl,_⟩
 ·exact⟨none,0,by rw[h0]⟩
 ·exact⟨_,_,rfl⟩
theorem yl.listO {w:World}{lo:Nat}{v:Value}{l:List kS}(h:yl w lo v l){S:Nat→Prop}(hS:∀g,v.ownBlock=some g→S g):kE S 5 (fun _=>jU) w v l:=by
 have r:maxLen≤9223372036854775807:=by decide
 rcases h.2 with ⟨rfl,h0⟩ | ⟨g,cap,cur,rfl,hlo,hg,h1,h2,h3,h4⟩
 ·exact⟨none,0,by rw[h0],by omega,fun hp=>absurd hp (by omega)⟩
 ·refine⟨some (Z g 0),cap,rfl,by omega,fun hp=>⟨g,0,rfl,hS g rfl,fun i x hx=>?_⟩⟩;rw[Nat.zero_add];have key:∀c u,c<5→[vi x.op,vi x.d,vi x.a,vi x.b,vi x.n][c]?=some u→w.cell? (Z g (i*5+c))=some u:=fun c u hc hu=>Xu h (by rw[afd hx hc];exact hu)
  exact⟨key 0 _ (by omega) rfl,key 1 _ (by omega) rfl,key 2 _ (by omega) rfl,key 3 _ (by omega) rfl,key 4 _ (by omega) rfl⟩
theorem aeA {w:World}{lo n:Nat}{v:Value}{l:List kS}{x:kS}(hn:l.length=n)(h:w.ownsRow lo 47 5 v (n+1) (agn l ++ [vi x.op,vi x.d,vi x.a,vi x.b,vi x.n])):yl w lo v (l ++ [x]):=by
 unfold yl;rw[List.length_append,ahZ,List.length_singleton,hn];exact h
end Go.Proofs.YtkbhbekfniadhaaGreat
