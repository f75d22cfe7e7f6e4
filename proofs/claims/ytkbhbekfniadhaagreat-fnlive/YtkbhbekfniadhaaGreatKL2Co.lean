/- A program is copied by the model (l2Copy): it reads alike, in new memory, each list in a block of memory of its own. -/
import Derived.Test.YtkbhbekfniadhaaGreatTkK
import Derived.Test.YtkbhbekfniadhaaGreatTk0
import Derived.Test.YtkbhbekfniadhaaGreatKSpot
import Derived.Test.YtkbhbekfniadhaaGreatKCopy
import Derived.Test.YtkbhbekfniadhaaGreatKFnCo
import Derived.Test.YtkbhbekfniadhaaGreatKTo
import Derived.Test.YtkbhbekfniadhaaGreatKSh8
set_option maxRecDepth 100000
set_option maxHeartbeats 16000000
namespace Go.Proofs.YtkbhbekfniadhaaGreat
open Go.ChangeShapes Go.WideShapes Go.ChangeAt Go.RowKit
set_option linter.unusedVariables false
def onlyEnd (Post:Act→World→Prop):Exit→Act→World→Prop
 | .normal,a,w=>Post a w
 | _,_,_=>False
theorem zZ {P:Program}{o:Oper}{a:Act}{w:World}{x y:Operand}{t:TypeId}{p q v:Value}{w':World}(ho:o.op=Op.call { callee:=Callee.builtin Builtin.append,args := #[x,y],argTypes := #[t,t] })(hx:a.eval x=p)(hy:a.eval y=q)(h:(Builtin.append_ #[t,t] o.type #[p,q]).run P w=.ok v w'):(execOp a.eval o).run P w=.ok (.value v) w':=by
 simp[execOp,ho,resolve,invoke,builtin,hx,hy,h]
def xF (w:World)(X:Nat)(lv:Value)(k a t e:Int):World:=(((((w.setCell ⟨X,0,none⟩ (.slice none 0 0)).setCell ⟨X,1,none⟩ lv).setCell ⟨X,2,none⟩ (.int .i64 k)).setCell ⟨X,3,none⟩ (.int .i64 a)).setCell ⟨X,4,none⟩ (.int .i64 t)).setCell ⟨X,5,none⟩ (.int .i64 e)
theorem JC {w:World}{X:Nat}(h:w.heap[X]?=some (.cells #[.slice none 0 0,.slice none 0 0,.int .i64 0,.int .i64 0,.int .i64 0,.int .i64 0] 43 (0,0)))(lv:Value)(k a t e:Int):(xF w X lv k a t e).heap[X]?=some (.cells #[.slice none 0 0,lv,.int .i64 k,.int .i64 a,.int .i64 t,.int .i64 e] 43 (0,0)):=by
 simp[xF,World.setCell,Array.getElem?_modify,h]
theorem qx (w:World)(X:Nat)(lv:Value)(k a t e:Int):FrB X w (xF w X lv k a t e):=((((((FrB.refl X w).setCell _ _).setCell _ _).setCell _ _).setCell _ _).setCell _ _).setCell _ _
theorem yQ.put {α:Type}{k lo lo':Nat}{E:World→Nat→Nat→α→Prop}{w w':World}{a:Option Addr}{l:List α}(h:yQ k E lo w a l)(hE:∀{b o:Nat} {x:α},E w b o x→w'.heap[b]?=w.heap[b]?→E w' b o x)(hl:lo'≤lo)(hb:∀b,a=some ⟨b,0,none⟩→lo≤b→b<w.heap.size→w'.heap[b]?=w.heap[b]?):yQ k E lo' w' a l:=fun hp=>by
 obtain⟨g,ha,h1,h2,h3,h4⟩:=h hp;have e:=hb g ha h1 h2;refine⟨g,ha,by omega,?_,fun i x hx=>hE (h3 i x hx) e,fun j=>(kQ e j).trans (h4 j)⟩;rw[Array.getElem?_eq_getElem h2] at e;exact(aI e).1
theorem qL.mono {α:Type}{T:TypeId}{k:Nat}{G G':World→List Value→α→Prop}{w:World}{lo X:Nat}{v:Value}{l:List α}(h:qL T k G w lo X v l)(hG:∀w2 ys x,G w2 ys x→G' w2 ys x):qL T k G' w lo X v l:=by
 obtain⟨xs,h1,h2,h3⟩:=h;exact⟨xs,h1,h2,fun i x hx w2 hk=>hG _ _ _ (h3 i x hx w2 hk)⟩
theorem qL.aaz {α:Type}{T:TypeId}{k:Nat}{G:World→List Value→α→Prop}{w:World}{lo X:Nat}{v:Value}{l:List α}(h:qL T k G w lo X v l){b:Nat}(hb:v.ownBlock=some b):lo≤b∧b<w.heap.size∧∀j,w.frozen? ⟨b,j,none⟩=false:=by
 obtain⟨xs,h1,h2,h3⟩:=h;rcases h1.2 with ⟨hv,h0⟩ | ⟨g,cap,cur,hv,hlo,hg,hr⟩
 ·rw[hv] at hb;simp[Value.ownBlock] at hb
 ·rw[hv] at hb;simp[Value.ownBlock] at hb;subst hb;exact⟨hlo,(aI hg).1,fun j=>by simp[World.frozen?,hg]⟩
theorem zip_at {α:Type}{l:List α}{i:Nat}{x:α}(h:l[i]?=some x):l.zipIdx[i]?=some (x,i):=by
 rw[List.getElem?_zipIdx,h];simp
theorem qL.readO {α:Type}{T:TypeId}{k:Nat}{G:World→List Value→α × Nat→Prop}{w:World}{lo X:Nat}{v:Value}{l:List α}(h:qL T k G w lo X v l.zipIdx)(hm:l.length≤9223372036854775807){S:Nat→Prop}(hS:∀b,v.ownBlock=some b→S b){E:Nat→World→Nat→Nat→α→Prop}
  (hE:∀(g o i:Nat) (x:α) (ys:List Value),G w ys (x,i)→(∀j u,ys[j]?=some u→w.cell? ⟨g,o+j,none⟩=some u)→E i w g o x):kE S k E w v l:=by
 obtain⟨xs,h1,h2,h3⟩:=h;rw[List.length_zipIdx] at h1;rcases h1.2 with ⟨hv,h0⟩ | ⟨g,cap,cur,hv,hlo,hg,hr⟩
 ·exact⟨Option.none,0,by rw[hv,h0],hm,fun hp=>absurd hp (by omega)⟩
 ·refine⟨some ⟨g,0,Option.none⟩,cap,hv,hm,fun hp=>⟨g,0,rfl,hS g (by rw[hv];rfl),fun i x hx=>hE g _ i x _ (h3 i (x,i) (zip_at hx) w (xY.refl _ _ _)) (fun j u hu=>?_)⟩⟩;have hj:j<k:=by
   have:=(List.getElem?_eq_some_iff.1 hu).1;rw[List.length_take] at this;omega
  rw[List.getElem?_take_of_lt hj,List.getElem?_drop] at hu;have hc:=h1.cells (g:=g) (by rw[hv];rfl) _ _ hu;rw[Jl] at hc;rw[Nat.add_assoc];exact hc
theorem ag6 {na own':k6}{i:Nat}{S:Nat→Prop}{w w':World}{v:Value}{l:List yy}(h:kE S 2 (agk na i) w v l)(hS:∀b,S b→own' b=(1,i,0)∧w'.heap[b]?=w.heap[b]?)(hA:∀b j,na b=(3,i,j)→own' b=(3,i,j)∧w'.heap[b]?=w.heap[b]?):kE (fun b=>own' b=(1,i,0)) 2 (agk own' i) w' v l :=
 h.imp (fun b hb=>(hS b hb).1) (fun j b o x hb _ hx=>by
  obtain⟨h0,av,h1,h2⟩:=hx;have e:=(hS b hb).2
  exact⟨(jf e _).trans h0,av,(jf e _).trans h1,h2.own (fun g hg=>(hA g j hg).1) (fun _ g _ _ hg hx=>hx.same (hA g j hg).2)⟩)
theorem aeO {w:World}{lo k n:Nat}{T:TypeId}{v:Value}{xs ys:List Value}(h:w.ownsRow lo T k v n xs)(h':w.ownsRow lo T k v n ys):xs=ys:=by
 rcases h.2 with ⟨hv,h0⟩ | ⟨g,cap,cur,hv,_,hg,_,_,_,ht⟩
 ·subst h0;have h1:xs.length=0:=by have:=h.1;omega
  have h2:ys.length=0:=by have:=h'.1;omega
  rw[List.eq_nil_of_length_eq_zero h1,List.eq_nil_of_length_eq_zero h2]
 ·rcases h'.2 with ⟨r,_⟩ | ⟨g',cap',cur',r,_,hg',_,_,_,ht'⟩
  ·rw[hv] at r;simp at r
  ·rw[hv] at r;simp at r;obtain⟨rfl,rfl⟩:=r;rw[hg] at hg';simp at hg';subst hg';rw[←ht,←ht']
theorem afE {w:World}{X:Nat}{a b c d e f:Value}{T:TypeId}{z:Nat × Nat}(h:w.heap[X]?=some (.cells #[a,b,c,d,e,f] T z))(u:Value):(w.setCell ⟨X,0,none⟩ u).heap[X]?=some (.cells #[u,b,c,d,e,f] T z):=by
 simp[World.setCell,Array.getElem?_modify,h]
theorem Q4 (w:World)(l:List Value)(T:TypeId):∀j u,l[j]?=some u→(w.alloc (.cells l.toArray T)).cell? ((⟨w.heap.size,0,none⟩:Addr).add j)=some u:=fun j u hu=>by
 rw[Jl,Nat.zero_add,World.cell?_alloc_new];simpa using hu
def adT (na:k6)(k:Nat)(w:World)(ys:List Value)(p:yy × Nat):Prop := ∃av,ys = [.int .i64 p.1.d,av]∧kE (fun b=>na b=(3,k,p.2)) 2 (fun _=>qq) w av p.1.arms
structure InUp (w0 w:World)(x:jc)(k X g sz:Nat)(la:Option Addr)(lv:Value)(tk ta tt te:Int):Prop where
 bel:Below w0.heap.size w0 w
 lo:w0.heap.size≤X
 hsz:w0.heap.size≤sz∧X<sz∧sz≤w.heap.size
 list:yQ 5 jU w0.heap.size w la x.list
 lst:∀b,la=some ⟨b,0,none⟩→0<x.list.length→b≠X∧b<sz
 room:∀cap,lv=.slice la x.list.length cap→Jm w la x.list.length cap
 box:∃pa pcap na,w.heap[X]?=some (.cells #[.slice pa g pcap,lv,.int .i64 tk,.int .i64 ta,.int .i64 tt,.int .i64 te] 43 (0,0))∧qL 107 2 (adT na k) w sz X (.slice pa g pcap) ((x.phis.take g).zipIdx)∧ag4 na sz w∧∀b,(na b).1≤3→some b≠(Value.slice pa g pcap).ownBlock
def Qm (own:k6)(w:World)(ys:List Value)(b:jc × Nat):Prop := ∃pv lv,ys = [pv,lv,.int .i64 b.1.term.k,.int .i64 b.1.term.a,.int .i64 b.1.term.t,.int .i64 b.1.term.e]∧kE (fun g=>own g=(1,b.2,0)) 2 (agk own b.2) w pv b.1.phis∧kE (fun g=>own g=(2,b.2,0)) 5 (fun _=>jU) w lv b.1.list∧∀la n cap,lv=.slice la n cap→Jm w la n cap
theorem adT.more {na na':k6}{k:Nat}(h:∀b,(na b).1≤3→na' b=na b){w:World}{ys:List Value}{p:yy × Nat}(hg:adT na k w ys p):adT na' k w ys p:=by
 obtain⟨av,e,ha⟩:=hg;exact⟨av,e,ha.own (fun g hg=>(h g (by rw[hg];simp)).trans hg) (fun _ _ _ _ _ h=>h)⟩
theorem Qm.more {own own':k6}(h:∀b,(own b).1≤3→own' b=own b){w:World}{ys:List Value}{b:jc × Nat}(hg:Qm own w ys b):Qm own' w ys b:=by
 obtain⟨pv,lv,e,hp,hl,hrm⟩:=hg;refine⟨pv,lv,e,hp.own (fun g hg=>(h g (by rw[hg];simp)).trans hg) (fun j _ _ _ _ hx=>?_),hl.own (fun g hg=>(h g (by rw[hg];simp)).trans hg) (fun _ _ _ _ _ h=>h),hrm⟩;obtain⟨h0,av,h1,h2⟩:=hx;exact⟨h0,av,h1,h2.own (fun g hg=>(h g (by rw[hg];simp)).trans hg) (fun _ _ _ _ _ h=>h)⟩
theorem lroom_of {w:World}{la:Option Addr}{n nl cap lcap:Nat}(h:Jm w la nl lcap)(hn:n=nl)(e:Value.slice la nl lcap=.slice la n cap):Jm w la n cap:=by
 simp at e;rw[hn,←e.2];exact h
def RoomE (w:World)(b o:Nat)(x:jc):Prop := ∃la cap,w.cell? ⟨b,o+1,none⟩=some (.slice la x.list.length cap)∧Jm w la x.list.length cap
def z6 (own:k6)(w:World)(bv:Value)(bs:List jc):Prop:=kE (fun g=>own g=(0,0,0)) 6 (fun _=>RoomE) w bv bs
theorem z6.set {own:k6}{w:World}{bv:Value}{bs:List jc}{R:Nat}(h:z6 own w bv bs)(hR:∀g,own g=(0,0,0)→g≠R){c:Array Value}{z:Nat × Nat}(hc:w.heap[R]?=some (.cells c 26 z))(j:Nat)(v:Value):z6 own (w.setCell ⟨R,j,none⟩ v) bv bs:=by
 refine kE.imp h (fun _ h=>h) (fun i b o x hb _ hx=>?_);obtain⟨la,cap,h1,h2⟩:=hx;refine⟨la,cap,(jf (Below.heap_setCell _ _ _ b (hR b hb)) _).trans h1,?_⟩;rcases h2 with h2 | ⟨h0,g,cur,e,hg,h3⟩
 ·exact .inl h2
 ·refine .inr ⟨h0,g,cur,e,?_,h3⟩;rw[Below.heap_setCell _ _ _ g (fun e9=>?_)]
  ·exact hg
  ·have e8:g=R:=e9;rw[e8,hc] at hg;simp at hg
def GivesORR (w:World)(F:FnD)(e:Ending)(w':World):Prop := ∃bv own,e=.returned (.agg #[bv,.int .i64 F.values])∧FnO w.heap.size own w' bv F.blocks∧kI own w' w.heap.size bv F.blocks.length∧z6 own w' bv F.blocks∧Below w.heap.size w w'
structure OutUp (w0 w:World)(F:FnD)(X R n bcap k:Nat)(ba:Option Addr)(vals:Int):Prop where
 bel:Below w0.heap.size w0 w
 bx:w.heap[X]?=some (.cells #[.slice ba n bcap,.int .i64 vals] 26 (0,0))
 br:w.heap[R]?=some (.cells #[.slice none 0 0,.int .i64 0] 26 (0,0))
 lo:R+2≤w.heap.size
 row:∃oa ocap own,w.heap[R+1]?=some (.cells #[.slice oa k ocap,.int .i64 vals] 26 (0,0))∧qL 43 6 (Qm own) w (R+2) (R+1) (.slice oa k ocap) ((F.blocks.take k).zipIdx)∧ag4 own (R+2) w∧∀b,(own b).1≤3→some b≠(Value.slice oa k ocap).ownBlock
theorem Yi (v:Value)(F:FnD)(w:World)(hF:kJ w v F)(hs:JR F) :
  Calls Tryz.prog 100 #[v] w fun e w'=>GivesORR w F e w':=by
 have HF:Hid (kJ w v F):=hF;have bt:Hid (JR F):=hs;obtain⟨n,HN⟩:∃n,Hid (F.blocks.length=n):=⟨_,rfl⟩;obtain⟨vals,HV⟩:∃x,Hid (F.values=x):=⟨_,rfl⟩;obtain⟨ba,bcap,rfl⟩:=hF.out HN.out HV.out;have aT:n≤1048576:=by rw[←HN.out];exact hs.1
 have bi:Hid (∀i x,F.blocks[i]?=some x→∃b off,ba=some ⟨b,off,none⟩∧qH 0 w b (off+i*6) x):=fun i x hx=>by
  obtain⟨bv,he,a0,cap0,hbv,_,hc⟩:=HF.out;have e1:(.slice ba n bcap:Value)=bv:=by simp at he;exact he.1
  rw[hbv] at e1;simp at e1;obtain⟨b,off,hb,_,hel⟩:=hc (by have:=(List.getElem?_eq_some_iff.1 hx).1;omega);exact⟨b,off,e1.1.trans hb,hel i x hx⟩
 clear hF hs;go_enter Tryz.func100,Tryz.ntmps100
 go_wp2_with fail
 obtain⟨w1,hw1⟩:∃W,((w.alloc (.cells #[.slice ba n bcap,.int .i64 vals] 26)).alloc (.cells #[.slice none 0 0,.int .i64 0] 26)).alloc (.cells #[.slice none 0 0,.int .i64 vals] 26)=W:=⟨_,rfl⟩;have CU:Hid (OutUp w w1 F w.heap.size (w.heap.size+1) n bcap 0 ba vals):=by
  show OutUp _ _ _ _ _ _ _ _ _ _;rw[←hw1];refine⟨by repeat (first | exact Below.refl _ _ | apply Below.drew | refine Below.alloc ?_ (by simp <;> omega) _ | refine Below.setCell ?_ (by simp <;> omega) _),?_,?_,?_,?_⟩
  ·rw[Below.heap_alloc _ _ _ (by simp only[World.size_alloc];omega),Below.heap_alloc _ _ _ (by simp only[World.size_alloc];omega)];exact World.alloc_heap_new w _
  ·rw[Below.heap_alloc _ _ _ (by simp only[World.size_alloc];omega)];have h:=World.alloc_heap_new (w.alloc (.cells #[.slice ba n bcap,.int .i64 vals] 26)) (.cells #[.slice none 0 0,.int .i64 0] 26);rw[World.size_alloc] at h;exact h
  ·simp
  ·refine⟨none,0,fun _=>(9,0,0),?_,by simpa using qL.empty _ _ _,fun g h=>absurd h (by simp),fun g h=>absurd h (by simp)⟩;have h:=World.alloc_heap_new ((w.alloc (.cells #[.slice ba n bcap,.int .i64 vals] 26)).alloc (.cells #[.slice none 0 0,.int .i64 0] 26)) (.cells #[.slice none 0 0,.int .i64 vals] 26);rw[World.size_alloc,World.size_alloc] at h;exact h
 rw[hw1];clear hw1;go_loopw [4] (fun i wr=>∃k:Nat,k≤n∧i=.int .i64 (k:Int)∧OutUp w wr F w.heap.size (w.heap.size+1) n bcap k ba vals) (fun i _=>n-(intOf i).toNat)
 case atStart=>exact⟨0,Nat.zero_le _,rfl,CU.out⟩
 case round=>
  obtain⟨wq,hwq⟩:∃x,x=wr:=⟨_,rfl⟩;subst hwq;obtain⟨k,hk,rfl,hcu⟩:=hrel;have L:Hid (OutUp w wq F w.heap.size (w.heap.size+1) n bcap k ba vals):=hcu;have x0:wq.cell? ⟨w.heap.size,0,none⟩=some (.slice ba n bcap):=by simp[World.cell?,hcu.bx]
  by_cases bR:(k:Int)<(n:Int)
  ·obtain⟨x,hx⟩:∃x,F.blocks[k]?=some x:=⟨_,List.getElem?_eq_getElem (by have:=HN.out;omega)⟩;have HX:Hid (F.blocks[k]?=some x):=hx;have ai:Hid (X8 x):=bt.out.2 x (List.mem_of_getElem? hx);obtain⟨b0,off0,rfl,pv,lv,o0,o1,o2,o3,o4,o5,hps,hls⟩:=bi.out k x hx;have r1:=Bel.keeps hcu.bel o1;have r2:=Bel.keeps hcu.bel o2;have r3:=Bel.keeps hcu.bel o3;have r4:=Bel.keeps hcu.bel o4;have r5:=Bel.keeps hcu.bel o5;have aG:Hid (jz 0 5 jU w lv x.list):=hls;have bo:Hid (jz 0 2 (yz 0) w pv x.phis):=hps;obtain⟨np,HNP⟩:∃q,Hid (x.phis.length=q):=⟨_,rfl⟩;obtain⟨pa,pcap,rfl,hpm,hpc⟩:=hps;rw[HNP.out] at o0 hpm hpc bo;have bm:Hid (w.cell? ⟨b0,off0+k*6,none⟩=some (.slice pa np pcap)):=o0;have bn:Hid (0<np→∃b off,pa=some ⟨b,off,none⟩∧0≤b∧∀i p,x.phis[i]?=some p→yz 0 w b (off+i*2) p):=hpc;clear hpc;obtain⟨nl,HNL⟩:∃q,Hid (x.list.length=q):=⟨_,rfl⟩;obtain⟨la,lcap,rfl,hlm,_⟩:=hls;rw[HNL.out] at r1 hlm aG;obtain⟨⟨tk,HTK⟩,⟨ta,HTA⟩,⟨tt,HTT⟩,⟨te,HTE⟩⟩:(∃q,Hid (x.term.k=q))∧(∃q,Hid (x.term.a=q))∧(∃q,Hid (x.term.t=q))∧∃q,Hid (x.term.e=q):=⟨⟨_,rfl⟩,⟨_,rfl⟩,⟨_,rfl⟩,⟨_,rfl⟩⟩;rw[HTK.out] at r2;rw[HTA.out] at r3;rw[HTT.out] at r4;rw[HTE.out] at r5;clear hx o0 o1 o2 o3 o4 o5 hcu;go_wp2_with fail
   refine Code.wp_mono (Q:=onlyEnd fun a w'=>∃(X:Nat) (B:Option Addr) (lcap':Nat) (y18 y19 y20 y21 y22 y23 y24 y25 y26 y27 y28 y29 y30 y31 y32:Value),a=⟨#[.agg #[.slice (some ⟨b0,off0,none⟩) n bcap,.int .i64 vals],.pointer (some ⟨w.heap.size,0,none⟩),.pointer (some ⟨w.heap.size+1,0,none⟩),.pointer (some ⟨w.heap.size+1+1,0,none⟩),.int .i64 (k:Int),.pointer (some ⟨X,0,none⟩),u6,u7,.pointer (some ⟨w.heap.size,1,none⟩),.int .i64 vals,.agg #[.slice none 0 0,.int .i64 vals],.int .i64 (k:Int),.pointer (some ⟨w.heap.size,0,none⟩),.slice (some ⟨b0,off0,none⟩) n bcap,.int .i64 (n:Int),.bool true,u16,u17,y18,y19,y20,y21,y22,y23,y24,y25,y26,y27,y28,y29,y30,y31,y32,u33,u34,u35,u36,u37,u38,u39,u40,u41,u42,u43,u44,u45,u46,u47,u48,u49,u50,u51,u52,u53,u54,u55,u56,u57,u58,u59,u60,u61,u62,u63,u64,u65,u66,u67,u68,u69,u70,undef],[]⟩∧w'.heap[X]?=some (.cells #[.slice none 0 0,.slice B nl lcap',.int .i64 tk,.int .i64 ta,.int .i64 tt,.int .i64 te] 43 (0,0))∧wq.heap.size≤X∧yQ 5 jU wq.heap.size w' B x.list∧Jm w' B nl lcap'∧(∀b,B=some ⟨b,0,none⟩→0<x.list.length→b≠X)∧Below wq.heap.size wq w') ?_ ?_
   ·rintro e a w2 h;cases e with
    | normal=>
     obtain⟨X,B,lcap',y18,y19,y20,y21,y22,y23,y24,y25,y26,y27,y28,y29,y30,y31,y32,rfl,hX,hlo,hL,hRM,hLX,hB⟩:=h;have bu:Hid (w2.heap[X]?=some (.cells #[.slice none 0 0,.slice B nl lcap',.int .i64 tk,.int .i64 ta,.int .i64 tt,.int .i64 te] 43 (0,0))):=hX;have HL:Hid (yQ 5 jU wq.heap.size w2 B x.list):=hL;have ak:Hid (Jm w2 B nl lcap'):=hRM;have bj:Hid (∀b,B=some ⟨b,0,none⟩→0<x.list.length→b≠X):=hLX;have bC:X<w2.heap.size:=(aI hX).1;have HB:Hid (Below wq.heap.size wq w2):=hB;have aX:wq.heap.size≤w2.heap.size:=hB.size;clear hX hL hB hLX hRM;simp only[Exit.then]
     go_at_K
     go_wp2_with fail
     have IU:Hid (InUp wq w2 x k X 0 w2.heap.size B (.slice B nl lcap') tk ta tt te):=⟨HB.out,hlo,⟨aX,bC,Nat.le_refl _⟩,HL.out,fun b h1 h2=>⟨bj.out b h1 h2,by
      obtain⟨g,e,_,h3,_⟩:=HL.out h2;have e2:=h1.symm.trans e;simp at e2
      omega⟩,(fun cap e=>lroom_of ak.out HNL.out e),none,0,fun _=>(9,0,0),bu.out,by simpa using qL.empty _ _ _,fun g h=>absurd h (by simp),fun g h=>absurd h (by simp)⟩
     go_loopw [6] (fun i wr=>∃g:Nat,g≤np∧i=.int .i64 (g:Int)∧InUp wq wr x k X g w2.heap.size B (.slice B nl lcap') tk ta tt te) (fun i _=>np-(intOf i).toNat)
     case atStart=>exact⟨0,Nat.zero_le _,rfl,IU.out⟩
     case round=>
      obtain⟨ws,hws⟩:∃x,x=wr:=⟨_,rfl⟩;subst hws;obtain⟨g,hg,rfl,hiu⟩:=hrel;have H:Hid (InUp wq ws x k X g w2.heap.size B (.slice B nl lcap') tk ta tt te):=hiu;obtain⟨qa,qcap,na,hbx,hro,hna,aT⟩:=hiu.box;have ax:Hid (ag4 na w2.heap.size ws):=hna;have aJ:Hid (∀b,(na b).1≤3→some b≠(Value.slice qa g qcap).ownBlock):=aT;have bK:w2.heap.size≤ws.heap.size:=hiu.hsz.2.2;have ay:Hid (qL 107 2 (adT na k) ws w2.heap.size X (.slice qa g qcap) ((x.phis.take g).zipIdx)):=hro;have aw:Hid (ws.heap[X]?=some (.cells #[.slice qa g qcap,.slice B nl lcap',.int .i64 tk,.int .i64 ta,.int .i64 tt,.int .i64 te] 43 (0,0))):=hbx;have BS:Hid (Below w.heap.size w ws):=L.out.bel.trans (hiu.bel.mono L.out.bel.size);have s0:=Bel.keeps hiu.bel x0;have s1:=Bel.keeps BS.out bm.out;have v0:ws.cell? ⟨X,0,none⟩=some (.slice qa g qcap):=by simp[World.cell?,hbx]
      have aP:X<ws.heap.size:=(aI hbx).1;clear hiu hbx hro hna aT x0 r1 r2 r3 r4 r5;by_cases bG:(g:Int)<(np:Int)
      ·obtain⟨p,hp⟩:∃p,x.phis[g]?=some p:=⟨_,List.getElem?_eq_getElem (by have:=HNP.out;omega)⟩;have HP:Hid (x.phis[g]?=some p):=hp;obtain⟨pb,poff,rfl,_,hpc⟩:=bn.out (by omega);obtain⟨q0,av,q1,q2⟩:=hpc g p hp;have q0:=Bel.keeps BS.out q0;have q1:=Bel.keeps BS.out q1;have a4:Hid (jz 0 2 qq w av p.arms):=q2;obtain⟨an,HAN⟩:∃q,Hid (p.arms.length=q):=⟨_,rfl⟩;obtain⟨aa,acap,rfl,_,_⟩:=q2;rw[HAN.out] at q1 a4;obtain⟨dv,HDV⟩:∃q,Hid (p.d=q):=⟨_,rfl⟩;rw[HDV.out] at q0;clear hp hpc;go_wp2_with fail
       obtain⟨wt,hwt⟩:∃W,ws.alloc (.cells #[.int .i64 dv,.slice aa an acap] 107)=W:=⟨_,rfl⟩;have BT:Hid (Below ws.heap.size ws wt):=by show Below _ _ _;rw[←hwt];exact Bel.alloc _ _
       have p0:wt.cell? ⟨ws.heap.size,0,none⟩=some (.int .i64 dv):=by rw[←hwt];simp[go_sem]
       have p1:wt.cell? ⟨ws.heap.size,1,none⟩=some (.slice aa an acap):=by rw[←hwt];simp[go_sem]
       rw[hwt];clear hwt;obtain⟨PX,hPX⟩:∃x,ws.heap.size=x:=⟨_,rfl⟩;rw[hPX] at p0 p1 ⊢;have t0:=Bel.keeps BT.out v0;clear q0 q1 v0 s0 s1;have I:∀w',Below wt.heap.size wt w'→w'.cell? ⟨X,0,none⟩=some (.slice qa g qcap)∧w'.cell? ⟨PX,0,none⟩=some (.int .i64 dv)∧w'.cell? ⟨PX,1,none⟩=some (.slice aa an acap):=fun w' hb=>⟨Bel.keeps hb t0,Bel.keeps hb p0,Bel.keeps hb p1⟩
       refine KH (Y1 12 (fun w'=>w'.cell? ⟨X,0,none⟩=some (.slice qa g qcap)∧w'.cell? ⟨PX,0,none⟩=some (.int .i64 dv)∧w'.cell? ⟨PX,1,none⟩=some (.slice aa an acap)) (by kernel_rfl) ?_);have hHeld:=I _ ((Below.refl wt.heap.size wt).drew);refine tkM 0 ⟨some 53,.fieldAddr 43 (.tmp 5) 0,0,"l02_fn.go:120",#[],none⟩ ?_ (fun w h=>?_) ?_;rotate_left
       ·(try dsimp only at h);go_simp;(try with_reducible rfl)
       try simp only[Act.put,sT,sZ,sS]
       refine tkM 1 ⟨some 54,.load 38 (.tmp 53),38,"l02_fn.go:120",#[⟨0,.data⟩],none⟩ ?_ (fun w h=>?_) ?_;rotate_left
       ·(try dsimp only at h);go_simp;(try with_reducible rfl)
       try simp only[Act.put,sT,sZ,sS]
       refine tkM 2 ⟨some 55,.fieldAddr 107 (.tmp 7) 0,0,"l02_fn.go:120",#[],none⟩ ?_ (fun w h=>?_) ?_;rotate_left
       ·(try dsimp only at h);go_simp;(try with_reducible rfl)
       try simp only[Act.put,sT,sZ,sS]
       refine tkM 3 ⟨some 56,.load 3 (.tmp 55),3,"l02_fn.go:120",#[⟨2,.data⟩],none⟩ ?_ (fun w h=>?_) ?_;rotate_left
       ·(try dsimp only at h);go_simp;(try with_reducible rfl)
       try simp only[Act.put,sT,sZ,sS]
       refine tkM 5 ⟨some 58,.fieldAddr 107 (.tmp 7) 1,0,"l02_fn.go:120",#[],none⟩ ?_ (fun w h=>?_) ?_;rotate_left
       ·(try dsimp only at h);go_simp;(try with_reducible rfl)
       try simp only[Act.put,sT,sZ,sS]
       refine tkM 6 ⟨some 59,.load 105 (.tmp 58),105,"l02_fn.go:120",#[⟨5,.data⟩],none⟩ ?_ (fun w h=>?_) ?_;rotate_left
       ·(try dsimp only at h);go_simp;(try with_reducible rfl)
       try simp only[Act.put,sT,sZ,sS]
       clear hHeld;have BD:Below wt.heap.size wt wt.drew:=(Below.refl _ _).drew;generalize wt.drew=wD at BD ⊢;refine kW (i:=4) (o:=⟨some 57,.buildSlice 105 0 #[],105,"l02_fn.go:120",#[],none⟩) rfl rfl (by kernel_rfl) (fun K9 r=>?_);refine jC (v:=.slice (some ⟨wD.heap.size,0,none⟩) 0 0) (w':=wD.alloc (.cells #[] 143)) (by simp[execOp,Instr.buildSlice,go_sem]) (r _ _ ⟨fun _=>I _ (Bel.after BD (Bel.alloc _ _)),?_⟩);try simp only[Act.put,sT,sZ,sS]
       clear r;obtain⟨wA,hgA⟩:∃W,wD.alloc (.cells #[] 143)=W:=⟨_,rfl⟩;have BA:Below wt.heap.size wt wA:=by rw[←hgA];exact Bel.after BD (Bel.alloc _ _)
       rw[hgA];clear hgA;refine kW (i:=7) (o:=⟨some 60,.call ⟨.builtin .append,#[.tmp 57,.tmp 59],#[105,105]⟩,105,"l02_fn.go:120",#[⟨4,.data⟩,⟨6,.data⟩],none⟩) rfl rfl (by kernel_rfl) (fun K9 r=>?_);obtain⟨bP,wB,hrun,hl,ah⟩:=add_arm wD.heap.size (.slice aa an acap) p.arms wA (a4.out.keep (fun b o z hb h=>h.keep (kM.jK (Bel.after (Bel.after BS.out BT.out) BA) 0) hb)) (ai.out.2.2 p (List.mem_of_getElem? HP.out)) 105;obtain⟨O,acap',hav,hl⟩:=hl;have HA:Hid (yQ 2 qq wA.heap.size wB O p.arms):=hl;subst hav;rw[HAN.out] at hrun;clear hl;have BB:Below wt.heap.size wt wB:=Bel.after BA ah;refine jC (zZ rfl rfl rfl hrun) (r _ _ ⟨fun _=>I _ BB,?_⟩);try simp only[Act.put,sT,sZ,sS]
       clear r hrun;have ao:=I _ BB;refine tkM 8 ⟨some 61,.build 107 #[(0,.tmp 56),(1,.tmp 60)],107,"l02_fn.go:120",#[⟨3,.data⟩,⟨7,.data⟩],none⟩ ?_ (fun w h=>?_) ?_;rotate_left
       ·(try dsimp only at h);go_simp;(try with_reducible rfl)
       try simp only[Act.put,sT,sZ,sS]
       clear ao;refine kW (i:=9) (o:=⟨some 62,.buildSlice 38 1 #[(0,.tmp 61)],38,"l02_fn.go:120",#[⟨8,.data⟩],none⟩) rfl rfl (by kernel_rfl) (fun K9 r=>?_);refine jC (v:=.slice (some ⟨wB.heap.size,0,none⟩) 1 1) (w':=wB.alloc (.cells #[.int .i64 dv,.slice O an acap'] 107)) (by simp[execOp,Instr.buildSlice,go_sem]) (r _ _ ⟨fun _=>I _ (Bel.after BB (Bel.alloc _ _)),?_⟩);try simp only[Act.put,sT,sZ,sS]
       clear r;obtain⟨wC,hgC⟩:∃W,wB.alloc (.cells #[.int .i64 dv,.slice O an acap'] 107)=W:=⟨_,rfl⟩;have U:Below wB.heap.size wB wC:=by rw[←hgC];exact Bel.alloc _ _
       have n0:wC.cell? ⟨wB.heap.size,0,none⟩=some (.int .i64 dv):=by rw[←hgC];simp[go_sem]
       have n1:wC.cell? ⟨wB.heap.size,1,none⟩=some (.slice O an acap'):=by rw[←hgC];simp[go_sem]
       have BC:Below wt.heap.size wt wC:=Bel.after BB U;rw[hgC];clear hgC;refine kW (i:=10) (o:=⟨some 63,.call ⟨.builtin .append,#[.tmp 54,.tmp 62],#[38,38]⟩,38,"l02_fn.go:120",#[⟨1,.data⟩,⟨9,.data⟩,⟨7,.chain⟩],none⟩) rfl rfl (by kernel_rfl) (fun K9 r=>?_);obtain⟨xs,hown,hne,hsg⟩:=ay.out.keep (w':=wC) (fun b a1 _=>(Bel.after BT.out BC).block b a1) (Bel.after BT.out BC).size;have bq:Hid (qL 107 2 (adT na k) wC w2.heap.size X (.slice qa g qcap) ((x.phis.take g).zipIdx)):=⟨xs,hown,hne,hsg⟩;have au:((x.phis.take g).zipIdx).length=g:=by rw[List.length_zipIdx,List.length_take];have:=HNP.out;omega
       rw[au] at hown;obtain⟨i0,hi,hz0,hz1,hz2⟩:=info_parts agA;have bH:2000000≤maxLen:=by decide
       have bI:np≤1048576:=by have:=ai.out.1;have:=HNP.out;omega
       have aS:w2.heap.size≤wC.heap.size:=by have h2:=(Bel.after BT.out BC).size;omega
       obtain⟨v',wE,hrun,J,hgr,hnil,aF⟩:=run_append_own_at (P:=Tryz.prog) wC w2.heap.size 38 38 107 i0 (.agg #[.int .i64 0,.slice none 0 0]) 2 32 Tryz.underlying38 hi hz0 hz1 hz2 rfl (by decide) (.slice qa g qcap) g xs hown ⟨wB.heap.size,0,none⟩ 1 1 [.int .i64 dv,.slice O an acap'] rfl (fun j u hu=>by
        rw[Jl];rcases j with _ | _ | j
        ·simp at hu;subst hu;exact n0
        ·simp at hu;subst hu;exact n1
        ·simp at hu) (by simp[Value.oneCell']) (by omega) (by omega) aS
       have K:∀b,(Value.slice qa g qcap).ownBlock=some b→w2.heap.size≤b∧b<ws.heap.size:=by
        obtain⟨_,h1,_,_⟩:=ay.out;exact h1.lt
       have aE:some X≠(Value.slice qa g qcap).ownBlock:=fun e=>hne e.symm
       have aD:some PX≠(Value.slice qa g qcap).ownBlock:=fun e=>by have:=(K PX e.symm).2;omega
       have a9:wE.cell? ⟨X,0,none⟩=some (.slice qa g qcap)∧wE.cell? ⟨PX,0,none⟩=some (.int .i64 dv)∧wE.cell? ⟨PX,1,none⟩=some (.slice aa an acap):=⟨hgr.cell (I _ BC).1 aE,hgr.cell (I _ BC).2.1 aD,hgr.cell (I _ BC).2.2 aD⟩;have BE:Hid (Below wq.heap.size wq wE):=(Bel.after H.out.bel (Bel.after BT.out BC)).grown hgr (by omega) (fun j ej=>by have:=(K j ej).1;omega);have aj:Hid (v'.ownBlock=(Value.slice qa g qcap).ownBlock∨v'.ownBlock=some wC.heap.size):=aF;have az:Hid (wC.grownBy wE (Value.slice qa g qcap).ownBlock):=hgr;have aL:Hid (wE.ownsRow w2.heap.size 107 2 v' (g+1) (xs ++ [.int .i64 dv,.slice O an acap'])):=J;have aH:Hid (wC.ownsRow w2.heap.size 107 2 (.slice qa g qcap) g xs):=hown;obtain⟨V,cap2,hv2⟩:∃V cap2,v'=.slice V (g+1) cap2:=by
        rcases J.2 with ⟨_,h0⟩ | ⟨g2,c2,_,h2,_⟩
        ·omega
        ·exact⟨_,c2,h2⟩
       subst hv2;refine jC (zZ rfl rfl rfl hrun) (r _ _ ⟨fun _=>a9,?_⟩);try simp only[Act.put,sT,sZ,sS]
       clear r hrun J hown hgr aF hnil hsg;refine tkM 11 ⟨some 64,.fieldAddr 43 (.tmp 5) 0,0,"l02_fn.go:120",#[⟨0,.phase⟩,⟨1,.phase⟩,⟨2,.phase⟩,⟨3,.phase⟩,⟨4,.phase⟩,⟨5,.phase⟩,⟨6,.phase⟩,⟨7,.phase⟩,⟨8,.phase⟩,⟨9,.phase⟩,⟨10,.phase⟩],none⟩ ?_ (fun w h=>?_) ?_;rotate_left
       ·(try dsimp only at h);go_simp;(try with_reducible rfl)
       try simp only[Act.put,sT,sZ,sS]
       have bb:wC.heap[X]?=_:=((Bel.after BT.out BC).block X (by omega)).trans aw.out;have bc:wE.heap[X]?=_:=(az.out.block X (aI bb).1 aE).trans bb;have e0:wE.cell? ⟨X,0,none⟩=some (.slice qa g qcap):=a9.1;have ze:wE.frozen? ⟨X,0,none⟩=false:=by simp[World.frozen?,bc]
       refine kW (i:=12) (o:=⟨none,.store 38 (.tmp 64) (.tmp 63),0,"l02_fn.go:120",#[⟨11,.data⟩,⟨10,.data⟩,⟨10,.chain⟩,⟨0,.phase⟩,⟨1,.phase⟩,⟨2,.phase⟩,⟨3,.phase⟩,⟨4,.phase⟩,⟨5,.phase⟩,⟨6,.phase⟩,⟨7,.phase⟩,⟨8,.phase⟩,⟨9,.phase⟩,⟨10,.phase⟩],none⟩) rfl rfl (by kernel_rfl) (fun K9 r=>?_);refine Jy (w':=wE.setCell ⟨X,0,none⟩ (.slice V (g+1) cap2)) (by simp[execOp,go_sem,e0,ze]) (r _ _ ⟨fun h=>absurd rfl h,?_⟩);clear r;refine zq (by kernel_rfl) ?_ _;simp only[noThrow,Exit.inBlock,Exit.then]
       go_at_K
       go_wp2_with fail
       go_roundw
       case rel=>
        have bX:=BT.out.size;have aU:=BA.size;have aV:=ah.size;have bf:=U.size;have bT:=az.out.size;have bQ:=H.out.hsz.2.1;have aW:wE.heap.size≤(wE.setCell ⟨X,0,none⟩ (.slice V (g+1) cap2)).heap.size:=by simp
        have ae:∀b,b<ws.heap.size→b≠X→some b≠(Value.slice qa g qcap).ownBlock→(wE.setCell ⟨X,0,none⟩ (.slice V (g+1) cap2)).heap[b]?=ws.heap[b]?:=fun b h1 h2 h3=>by
         rw[Below.heap_setCell _ _ _ _ (show b≠(⟨X,0,none⟩:Addr).block from h2),az.out.block b (by omega) h3];exact(Bel.after BT.out BC).block b h1
        have am:∀b,wA.heap.size≤b→b<wB.heap.size→some b≠(Value.slice qa g qcap).ownBlock:=fun b h1 h2 e=>by have:=(K b e.symm).2;omega
        have ap:∀b,wA.heap.size≤b→b<wB.heap.size→(wE.setCell ⟨X,0,none⟩ (.slice V (g+1) cap2)).heap[b]?=wB.heap[b]?:=fun b h1 h2=>by
         rw[Below.heap_setCell _ _ _ _ (show b≠(⟨X,0,none⟩:Addr).block from by show b≠X;omega),az.out.block b (by omega) (am b h1 h2)];exact U.block b h2
        have M:∀b,(na b).1≤3→armO na wA.heap.size O an (3,k,g) b=na b:=fun b hb=>by
         have:=(ax.out b hb).2.1;simp only[armO];rw[if_pos (by omega)]
        have ad:∀b,¬b<wA.heap.size→(armO na wA.heap.size O an (3,k,g) b).1≤3→O=some ⟨b,0,none⟩∧0<an:=fun b h1 h2=>by
         simp only[armO] at h2;rw[if_neg h1] at h2;by_cases e:O=some ⟨b,0,none⟩∧0<an
         ·exact e
         ·rw[if_neg e] at h2;simp at h2
        have ar:∀b,O=some ⟨b,0,none⟩→0<an→wA.heap.size≤b∧b<wB.heap.size∧∀j,wB.frozen? ⟨b,j,none⟩=false:=fun b h1 h2=>by
         obtain⟨g2,e1,e2,e3,_,e5⟩:=HA.out (by have:=HAN.out;omega);have e6:=h1.symm.trans e1;simp at e6;subst e6;exact⟨e2,e3,e5⟩
        refine⟨g+1,by omega,by go_num,BE.out.setCell (p:=⟨X,0,none⟩) H.out.lo _,H.out.lo,⟨H.out.hsz.1,H.out.hsz.2.1,by simp;omega⟩,fun hp=>?_,H.out.lst,(fun cap e=>(H.out.room cap e).turn (fun hp=>by obtain⟨g2,e1,e2,e3,e4,e5⟩:=H.out.list hp;obtain⟨e6,e7⟩:=H.out.lst g2 e1 hp;exact⟨g2,e1,ae g2 (by omega) e6 (fun e=>by have:=(K g2 e.symm).1;omega)⟩)),V,cap2,armO na wA.heap.size O an (3,k,g),afE bc _,?_,fun b hb=>?_,fun b hb=>?_⟩
        ·obtain⟨g2,e1,e2,e3,e4,e5⟩:=H.out.list hp;obtain⟨e6,e7⟩:=H.out.lst g2 e1 hp;have e8:=ae g2 (by omega) e6 (fun e=>by have:=(K g2 e.symm).1;omega);exact⟨g2,e1,e2,by simp;omega,fun i z hz=>(e4 i z hz).same e8,fun j=>(kQ e8 j).trans (e5 j)⟩
        ·have e3:(x.phis.take (g+1)).zipIdx=(x.phis.take g).zipIdx ++ [(p,g)]:=by
          rw[List.take_add_one,HP.out,Option.toList_some,List.zipIdx_append];have:(x.phis.take g).length=g:=by rw[List.length_take];have:=HNP.out;omega
          simp[this]
         rw[e3];refine qL.keep ((bq.out.mono (fun w2 ys q=>adT.more M)).grow (p,g) [.int .i64 dv,.slice O an acap'] rfl (fun ys hy=>?_) az.out aj.out (by have:=(Bel.after BT.out BC).size;omega) (fun w2 aR=>⟨_,by rw[HDV.out],?_⟩)) (fun b _ hb=>Below.heap_setCell _ _ _ _ hb) aW
         ·rw[au] at hy ⊢;rw[aeO hy aH.out];exact aL.out
         ·have h1:yQ 2 qq wA.heap.size w2 O p.arms:=HA.out.put (fun hx e=>hx.same e) (Nat.le_refl _) (fun b hb h1 h2=>(aR b (by omega) (by omega) (am b h1 h2)).trans (U.block b h2))
          have h:=h1.listO (ai.out.2.2 p (List.mem_of_getElem? HP.out)) acap' (S:=fun b=>armO na wA.heap.size O an (3,k,g) b=(3,k,g)) (fun b ha hp=>by
           have be:0<an:=by have:=HAN.out;omega
           have:=(ar b ha be).1;simp only[armO]
           rw[if_neg (by omega),if_pos ⟨ha,be⟩])
          rw[HAN.out] at h;exact h
        ·by_cases e:b<wA.heap.size
         ·have aB:(na b).1≤3:=by simp only[armO] at hb;rw[if_pos e] at hb;exact hb
          obtain⟨a1,a2,a3⟩:=ax.out b aB;have e8:=ae b a2 (by omega) (aJ.out b aB);exact⟨a1,by simp;omega,fun j=>(kQ e8 j).trans (a3 j)⟩
         ·obtain⟨e1,e2⟩:=ad b e hb;obtain⟨a1,a2,a3⟩:=ar b e1 e2;exact⟨by omega,by simp;omega,fun j=>(kQ (ap b a1 a2) j).trans (a3 j)⟩
        ·by_cases e:b<wA.heap.size
         ·have aB:(na b).1≤3:=by simp only[armO] at hb;rw[if_pos e] at hb;exact hb
          have:=(ax.out b aB).2.1;rcases aj.out with h | h
          ·rw[h];exact aJ.out b aB
          ·rw[h];simp;omega
         ·obtain⟨e1,e2⟩:=ad b e hb;obtain⟨a1,a2,a3⟩:=ar b e1 e2;rcases aj.out with h | h
          ·rw[h];exact am b a1 a2
          ·rw[h];simp;omega
       case measure=>simp[intOf];omega
      ·have bE:g=np:=by omega
       subst bE;obtain⟨oa,ocap,own,hbo,hrw,how,hon⟩:=L.out.row;have aK:Hid (ag4 own (w.heap.size+1+2) wq):=how;have aZ:Hid (∀b,(own b).1≤3→some b≠(Value.slice oa k ocap).ownBlock):=hon;have hsz:=L.out.lo;have af:=(H.out.bel.block _ (by omega)).trans hbo;have bh:Hid (ws.heap[w.heap.size+1+1]?=some (.cells #[.slice oa k ocap,.int .i64 vals] 26 (0,0))):=af;have a5:Hid (qL 43 6 (Qm own) ws (w.heap.size+1+2) (w.heap.size+1+1) (.slice oa k ocap) ((F.blocks.take k).zipIdx)):=hrw.keep (fun b hb _=>H.out.bel.block b hb) H.out.bel.size;have m0:ws.cell? ⟨w.heap.size+1+1,0,none⟩=some (.slice oa k ocap):=by simp[World.cell?,af]
       have m1:ws.cell? ⟨w.heap.size+1+1,1,none⟩=some (.int .i64 vals):=by simp[World.cell?,af]
       have zm:ws.frozen? ⟨w.heap.size+1+1,0,none⟩=false:=by simp[World.frozen?,af]
       have v1:ws.cell? ⟨X,1,none⟩=some (.slice B nl lcap'):=by simp[World.cell?,aw.out]
       have v2:ws.cell? ⟨X,2,none⟩=some (.int .i64 tk):=by simp[World.cell?,aw.out]
       have v3:ws.cell? ⟨X,3,none⟩=some (.int .i64 ta):=by simp[World.cell?,aw.out]
       have v4:ws.cell? ⟨X,4,none⟩=some (.int .i64 tt):=by simp[World.cell?,aw.out]
       have v5:ws.cell? ⟨X,5,none⟩=some (.int .i64 te):=by simp[World.cell?,aw.out]
       have K:∀b,(Value.slice oa k ocap).ownBlock=some b→w.heap.size+1+2≤b∧b<wq.heap.size:=by
        obtain⟨_,h1,_,_⟩:=hrw;exact h1.lt
       clear hbo hrw af how hon;obtain⟨xs,hown,hne,hsg⟩:=a5.out;have au:((F.blocks.take k).zipIdx).length=k:=by rw[List.length_zipIdx,List.length_take];have:=HN.out;omega
       rw[au] at hown;have aH:Hid (ws.ownsRow (w.heap.size+1+2) 43 6 (.slice oa k ocap) k xs):=hown;have aC:some (w.heap.size+1+1)≠(Value.slice oa k ocap).ownBlock:=fun e=>hne e.symm
       have bH:2000000≤maxLen:=by decide
       have bV:=H.out.bel.size;have bB:w.heap.size+1+1<ws.heap.size:=by omega
       clear hown hsg;obtain⟨i0,hi,hz0,hz1,hz2⟩:=info_parts Y7
       go_wp2_with (at_builtin;refine wpList_append_own_at _ rfl _ _ 24 rfl (w.heap.size+1+2) 43 i0 (.agg #[.slice none 0 0,.slice none 0 0,.int .i64 0,.int .i64 0,.int .i64 0,.int .i64 0]) 6 80 Tryz.underlying24 hi hz0 hz1 hz2 rfl (by decide) (.slice oa k ocap) k xs rfl (World.ownsRow.alloc aH.out _) ⟨ws.heap.size,0,none⟩ 1 1 [.slice qa g qcap,.slice B nl lcap',.int .i64 tk,.int .i64 ta,.int .i64 tt,.int .i64 te] rfl rfl (Q4 _ _ _) (by simp[Value.oneCell']) (by omega) (by omega) (by simp;omega) ?_;intro v' wa J ab _ aF;obtain⟨V,cap2,hv2⟩:∃V cap2,v'=.slice V (k+1) cap2:=(by
         rcases J.2 with ⟨_,h0⟩ | ⟨g2,c2,_,h2,_⟩
         ·omega
         ·exact⟨_,c2,h2⟩);subst hv2;have bl:Hid (wa.ownsRow _ _ _ _ _ _):=J;have HG:Hid (World.grownBy _ _ _):=ab;have aj:Hid (_∨_):=aF;have mE:wa.cell? ⟨w.heap.size+1+1,0,none⟩=some (.slice oa k ocap):=ab.cell ((World.cell?_alloc_lt _ _ _ bB).trans m0) aC;have zE:wa.frozen? ⟨w.heap.size+1+1,0,none⟩=false:=(World.frozen?_of_block (a:=⟨w.heap.size+1+1,0,none⟩) (ab.block _ (by simp;omega) aC)).trans ((frozen?_alloc_cells ws _ _ _).trans zm);clear J ab aF)
       go_roundw
       case rel=>
        have BN:Below ws.heap.size ws (ws.alloc (.cells #[.slice qa g qcap,.slice B nl lcap',.int .i64 tk,.int .i64 ta,.int .i64 tt,.int .i64 te] 43)):=Bel.alloc _ _;have bW:=BN.size;have bU:=HG.out.size;have bY:=L.out.bel.size;have BE:Below w.heap.size w wa:=(Bel.after BS.out BN).grown HG.out (by omega) (fun j ej=>by have:=(K j ej).1;omega);have aW:wa.heap.size≤(wa.setCell ⟨w.heap.size+1+1,0,none⟩ (.slice V (k+1) cap2)).heap.size:=by simp
        have aQ:∀b,b<w.heap.size+1+2→wa.heap[b]?=wq.heap[b]?:=fun b hb=>(HG.out.block b (by omega) (fun e=>by have:=(K b e.symm).1;omega)).trans ((BN.block b (by omega)).trans (H.out.bel.block b (by omega)))
        have bD:wa.heap[w.heap.size+1+1]?=_:=(aQ _ (by omega)).trans ((H.out.bel.block _ (by omega)).symm.trans bh.out);have bL:=H.out.bel.size;have bM:=H.out.hsz;have ae:∀b,w.heap.size+1+2≤b→b<wq.heap.size→some b≠(Value.slice oa k ocap).ownBlock→(wa.setCell ⟨w.heap.size+1+1,0,none⟩ (.slice V (k+1) cap2)).heap[b]?=wq.heap[b]?:=fun b h1 h2 h3=>by
         rw[Below.heap_setCell _ _ _ _ (show b≠(⟨w.heap.size+1+1,0,none⟩:Addr).block from by show b≠w.heap.size+1+1;omega),HG.out.block b (by omega) h3,BN.block b (by omega)];exact H.out.bel.block b h2
        have aq:∀b,wq.heap.size≤b→some b≠(Value.slice oa k ocap).ownBlock:=fun b h1 e=>by have:=(K b e.symm).2;omega
        have ap:∀b,wq.heap.size≤b→b<ws.heap.size→(wa.setCell ⟨w.heap.size+1+1,0,none⟩ (.slice V (k+1) cap2)).heap[b]?=ws.heap[b]?:=fun b h1 h2=>by
         rw[Below.heap_setCell _ _ _ _ (show b≠(⟨w.heap.size+1+1,0,none⟩:Addr).block from by show b≠w.heap.size+1+1;omega),HG.out.block b (by omega) (aq b h1)];exact BN.block b h2
        obtain⟨N,hN⟩:∃N,newO k B nl (Value.slice qa g qcap).ownBlock na=N:=⟨_,rfl⟩;have aN:∀b,B=some ⟨b,0,none⟩∧0<nl→(wq.heap.size≤b∧b<ws.heap.size∧∀j,ws.frozen? ⟨b,j,none⟩=false)∧b<w2.heap.size:=fun b hb=>by
         have hp:0<x.list.length:=by have:=HNL.out;omega
         obtain⟨g2,e1,e2,e3,_,e5⟩:=H.out.list hp;have e6:=hb.1.symm.trans e1;simp at e6;subst e6;exact⟨⟨e2,e3,e5⟩,(H.out.lst b e1 hp).2⟩
        have bz:∀b,B=some ⟨b,0,none⟩∧0<nl→N b=(2,k,0):=fun b hb=>by rw[←hN];simp only[newO];rw[if_pos hb]
        have bA:∀b,(Value.slice qa g qcap).ownBlock=some b→N b=(1,k,0):=fun b hb=>by
         rw[←hN];simp only[newO];rw[if_neg (fun e=>by have h1:=(aN b e).2;have h2:=(ay.out.aaz hb).1;omega),if_pos hb]
        have bw:∀b j,na b=(3,k,j)→N b=(3,k,j):=fun b j hb=>by
         have bd:(na b).1≤3:=by rw[hb];simp
         rw[←hN];simp only[newO];rw[if_neg (fun e=>by have h1:=(aN b e).2;have h2:=(ax.out b bd).1;omega),if_neg (fun e=>aJ.out b bd e.symm)];exact hb
        have aO:ag4 N wq.heap.size ws:=fun b hb=>by
         by_cases e:B=some ⟨b,0,none⟩∧0<nl
         ·exact(aN b e).1
         ·by_cases e2:(Value.slice qa g qcap).ownBlock=some b
          ·obtain⟨a1,a2,a3⟩:=ay.out.aaz e2;exact⟨by omega,a2,a3⟩
          ·rw[←hN] at hb;simp only[newO] at hb;rw[if_neg e,if_neg e2] at hb;obtain⟨a1,a2,a3⟩:=ax.out b hb;exact⟨by omega,a2,a3⟩
        have M:∀b,(own b).1≤3→(if b<wq.heap.size then own b else N b)=own b:=fun b hb=>by rw[if_pos (aK.out b hb).2.1]
        have ad:∀b,(N b).1≤3→(if b<wq.heap.size then own b else N b)=N b:=fun b hb=>by rw[if_neg (by have:=(aO b hb).1;omega)]
        refine⟨k+1,by omega,by go_num,BE.setCell (p:=⟨w.heap.size+1+1,0,none⟩) (by show w.heap.size≤w.heap.size+1+1;omega) _,(Below.heap_setCell _ _ _ _ (by show w.heap.size≠w.heap.size+1+1;omega)).trans ((aQ _ (by omega)).trans L.out.bx),(Below.heap_setCell _ _ _ _ (by show w.heap.size+1≠w.heap.size+1+1;omega)).trans ((aQ _ (by omega)).trans L.out.br),by omega,V,cap2,fun b=>if b<wq.heap.size then own b else N b,aeN bD _,?_,fun b hb=>?_,fun b hb=>?_⟩
        ·have e3:(F.blocks.take (k+1)).zipIdx=(F.blocks.take k).zipIdx ++ [(x,k)]:=by
          rw[List.take_add_one,HX.out,Option.toList_some,List.zipIdx_append];have:(F.blocks.take k).length=k:=by rw[List.length_take];have:=HN.out;omega
          simp[this]
         rw[e3];refine qL.keep (((a5.out.keep (fun b a1 _=>BN.block b a1) BN.size).mono (fun w2 ys q=>Qm.more M)).grow (x,k) [.slice qa g qcap,.slice B nl lcap',.int .i64 tk,.int .i64 ta,.int .i64 tt,.int .i64 te] rfl (fun ys hy=>?_) HG.out aj.out (by omega) (fun w2 aR=>?_)) (fun b _ hb=>Below.heap_setCell _ _ _ _ hb) aW
         ·rw[au] at hy ⊢;rw[aeO hy (World.ownsRow.alloc aH.out _)];exact bl.out
         ·have ac:∀b,wq.heap.size≤b→b<ws.heap.size→w2.heap[b]?=ws.heap[b]?:=fun b h1 h2=>(aR b (by omega) (by omega) (aq b h1)).trans (BN.block b h2)
          have a8:=ay.out;rw[List.take_of_length_le (by have:=HNP.out;omega)] at a8
          have bJ:=a8.readO (by have:=HNP.out;omega) (S:=fun b=>(Value.slice qa g qcap).ownBlock=some b) (fun b hb=>hb) (E:=agk na k) (fun g2 o i p ys hG hc=>by
           obtain⟨av,rfl,ha⟩:=hG
           exact⟨hc 0 _ rfl,av,hc 1 _ rfl,ha⟩)
          refine⟨_,_,by rw[HTK.out,HTA.out,HTT.out,HTE.out],ag6 bJ (fun b hb=>?_) (fun b j hb=>?_),?_,?_⟩
          ·obtain⟨a1,a2,_⟩:=ay.out.aaz hb;have h1:=bA b hb;exact⟨(ad b (by rw[h1];simp)).trans h1,ac b (by omega) a2⟩
          ·have h1:=bw b j hb;obtain⟨a1,a2,_⟩:=ax.out b (by rw[hb];simp);exact⟨(ad b (by rw[h1];simp)).trans h1,ac b (by omega) a2⟩
          ·have h1:yQ 5 jU wq.heap.size w2 B x.list:=H.out.list.put (fun hx e=>hx.same e) (Nat.le_refl _) (fun b _ h1 h2=>ac b h1 h2)
           have h:=h1.listO ai.out.2.1 lcap' (S:=fun b=>(if b<wq.heap.size then own b else N b)=(2,k,0)) (fun b ha hp=>by
            have h2:=bz b ⟨ha,by have:=HNL.out;omega⟩
            exact(ad b (by rw[h2];simp)).trans h2)
           rw[HNL.out] at h;exact h
          ·intro bZ n2 c2 e9
           have h1:=(H.out.room lcap' (by rw[HNL.out])).turn (w':=w2) (fun hp=>by
            obtain⟨g2,e1,e2,e3,_⟩:=H.out.list hp
            exact⟨g2,e1,ac g2 e2 e3⟩)
           rw[HNL.out] at h1;simp at e9;obtain⟨rfl,rfl,rfl⟩:=e9;exact h1
        ·dsimp only at hb;by_cases e:b<wq.heap.size
         ·rw[if_pos e] at hb;obtain⟨a1,a2,a3⟩:=aK.out b hb;have e8:=ae b a1 a2 (aZ.out b hb);exact⟨a1,by simp;omega,fun j=>(kQ e8 j).trans (a3 j)⟩
         ·rw[if_neg e] at hb;obtain⟨a1,a2,a3⟩:=aO b hb;exact⟨by omega,by simp;omega,fun j=>(kQ (ap b a1 a2) j).trans (a3 j)⟩
        ·dsimp only at hb;by_cases e:b<wq.heap.size
         ·rw[if_pos e] at hb;have:=(aK.out b hb).2.1;rcases aj.out with h | h
          ·rw[h];exact aZ.out b hb
          ·rw[h];simp;omega
         ·rw[if_neg e] at hb;obtain⟨a1,a2,a3⟩:=aO b hb;rcases aj.out with h | h
          ·rw[h];exact aq b a1
          ·rw[h];simp;omega
       case measure=>simp[intOf];omega
    | _=>exact h.elim
   ·refine wp_region_held_drew (S:=fun w'=>w'.cell? ⟨w.heap.size,0,none⟩=some (.slice (some ⟨b0,off0,none⟩) n bcap)∧w'.cell? ⟨b0,off0+k*6+1,none⟩=some (.slice la nl lcap)∧w'.cell? ⟨b0,off0+k*6+2,none⟩=some (.int .i64 tk)∧w'.cell? ⟨b0,off0+k*6+3,none⟩=some (.int .i64 ta)∧w'.cell? ⟨b0,off0+k*6+4,none⟩=some (.int .i64 tt)∧w'.cell? ⟨b0,off0+k*6+5,none⟩=some (.int .i64 te)) (by kernel_rfl) ⟨x0,r1,r2,r3,r4,r5⟩ (fun hHeld=>?_);refine tkA 1 ⟨some 19,.fieldAddr 26 (.tmp 1) 0,0,"l02_fn.go:117",#[],none⟩ ?_ (fun w h=>?_) ?_;rotate_left
    ·(try dsimp only at h);go_simp;(try with_reducible rfl)
    try simp only[Act.put,sT,sZ,sS]
    refine tkA 2 ⟨some 20,.load 24 (.tmp 19),24,"l02_fn.go:117",#[⟨1,.data⟩],none⟩ ?_ (fun w h=>?_) ?_;rotate_left
    ·(try dsimp only at h);go_simp;(try with_reducible rfl)
    try simp only[Act.put,sT,sZ,sS]
    refine tkA 3 ⟨some 21,.move (.tmp 4),3,"l02_fn.go:117",#[],none⟩ ?_ (fun w h=>?_) ?_;rotate_left
    ·(try dsimp only at h);go_simp;(try with_reducible rfl)
    try simp only[Act.put,sT,sZ,sS]
    refine tkA 4 ⟨some 22,.indexAddr 24 (.tmp 20) (.tmp 21),0,"l02_fn.go:117",#[⟨2,.data⟩,⟨3,.data⟩],none⟩ ?_ (fun w h=>?_) ?_;rotate_left
    ·(try dsimp only at h);go_simp;(try with_reducible rfl)
    try simp only[Act.put,sT,sZ,sS]
    refine tkA 5 ⟨some 23,.fieldAddr 43 (.tmp 22) 1,0,"l02_fn.go:117",#[⟨4,.data⟩],none⟩ ?_ (fun w h=>?_) ?_;rotate_left
    ·(try dsimp only at h);go_simp;(try with_reducible rfl)
    try simp only[Act.put,sT,sZ,sS]
    refine tkA 6 ⟨some 24,.load 39 (.tmp 23),39,"l02_fn.go:117",#[⟨5,.data⟩],none⟩ ?_ (fun w h=>?_) ?_;rotate_left
    ·(try dsimp only at h);go_simp;(try with_reducible rfl)
    try simp only[Act.put,sT,sZ,sS]
    refine tkA 8 ⟨some 26,.fieldAddr 26 (.tmp 1) 0,0,"l02_fn.go:117",#[],none⟩ ?_ (fun w h=>?_) ?_;rotate_left
    ·(try dsimp only at h);go_simp;(try with_reducible rfl)
    try simp only[Act.put,sT,sZ,sS]
    refine tkA 9 ⟨some 27,.load 24 (.tmp 26),24,"l02_fn.go:117",#[⟨8,.data⟩],none⟩ ?_ (fun w h=>?_) ?_;rotate_left
    ·(try dsimp only at h);go_simp;(try with_reducible rfl)
    try simp only[Act.put,sT,sZ,sS]
    refine tkA 10 ⟨some 28,.move (.tmp 4),3,"l02_fn.go:117",#[],none⟩ ?_ (fun w h=>?_) ?_;rotate_left
    ·(try dsimp only at h);go_simp;(try with_reducible rfl)
    try simp only[Act.put,sT,sZ,sS]
    refine tkA 11 ⟨some 29,.indexAddr 24 (.tmp 27) (.tmp 28),0,"l02_fn.go:117",#[⟨9,.data⟩,⟨10,.data⟩],none⟩ ?_ (fun w h=>?_) ?_;rotate_left
    ·(try dsimp only at h);go_simp;(try with_reducible rfl)
    try simp only[Act.put,sT,sZ,sS]
    refine tkA 12 ⟨some 30,.fieldAddr 43 (.tmp 29) 2,0,"l02_fn.go:117",#[⟨11,.data⟩],none⟩ ?_ (fun w h=>?_) ?_;rotate_left
    ·(try dsimp only at h);go_simp;(try with_reducible rfl)
    try simp only[Act.put,sT,sZ,sS]
    refine tkA 13 ⟨some 31,.load 41 (.tmp 30),41,"l02_fn.go:117",#[⟨12,.data⟩],none⟩ ?_ (fun w h=>?_) ?_;rotate_left
    ·(try dsimp only at h);go_simp;(try with_reducible rfl)
    try simp only[Act.put,sT,sZ,sS]
    have I:∀w',Below wq.heap.size wq w'→w'.cell? ⟨w.heap.size,0,none⟩=some (.slice (some ⟨b0,off0,none⟩) n bcap)∧w'.cell? ⟨b0,off0+k*6+1,none⟩=some (.slice la nl lcap)∧w'.cell? ⟨b0,off0+k*6+2,none⟩=some (.int .i64 tk)∧w'.cell? ⟨b0,off0+k*6+3,none⟩=some (.int .i64 ta)∧w'.cell? ⟨b0,off0+k*6+4,none⟩=some (.int .i64 tt)∧w'.cell? ⟨b0,off0+k*6+5,none⟩=some (.int .i64 te):=fun w' hb=>⟨Bel.keeps hb x0,Bel.keeps hb r1,Bel.keeps hb r2,Bel.keeps hb r3,Bel.keeps hb r4,Bel.keeps hb r5⟩
    have BD:Below wq.heap.size wq wq.drew:=(Below.refl _ _).drew;have hdr:wq.drew.heap.size=wq.heap.size:=rfl;clear hHeld;generalize wq.drew=wD at BD hdr ⊢;refine zu (i:=0) (i2:=15) (o:=⟨some 18,.buildSlice 39 0 #[],39,"l02_fn.go:117",#[],none⟩) (o2:=⟨some 5,.alloc 43,0,"l02_fn.go:117",#[],none⟩) rfl rfl rfl rfl (by kernel_rfl) (fun K9 r=>?_) (fun K9 r=>?_)
    ·refine jC (v:=.slice (some ⟨wD.heap.size,0,none⟩) 0 0) (w':=wD.alloc (.cells #[] 47)) (by simp[execOp,Instr.buildSlice,go_sem]) (r _ _ ⟨I _ (Bel.after BD (Bel.alloc _ _)),?_⟩);try simp only[Act.put,sT,sZ,sS]
     clear r;obtain⟨wA,hgwA⟩:∃W,wD.alloc (.cells #[] 47)=W:=⟨_,rfl⟩;have BA:Below wq.heap.size wq wA:=by rw[←hgwA];exact Bel.after BD (Bel.alloc _ _)
     have bN:Below wD.heap.size wD wA:=by rw[←hgwA];exact Bel.alloc _ _
     rw[hgwA];refine zu (i:=7) (i2:=15) (o:=⟨some 25,.call ⟨.builtin .append,#[.tmp 18,.tmp 24],#[39,39]⟩,39,"l02_fn.go:117",#[⟨0,.data⟩,⟨6,.data⟩],none⟩) (o2:=⟨some 5,.alloc 43,0,"l02_fn.go:117",#[],none⟩) rfl rfl rfl rfl (by kernel_rfl) (fun K9 r=>?_) (fun K9 r=>?_)
     ·obtain⟨bg,wB,hrun,hl,ah⟩:=abF wD.heap.size (.slice la nl lcap) x.list wA (aG.out.keep (fun b o z hb h=>h.keep (kM.jK (L.out.bel.trans (BA.mono L.out.bel.size)) 0) hb)) ai.out.2.1 39;obtain⟨B,lcap',hlv,hl,hrm⟩:=hl;have HL:Hid (yQ 5 jU wA.heap.size wB B x.list):=hl;have ak:Hid (Jm wB B nl lcap'):=by rw[HNL.out] at hrm;exact hrm
      clear hrm;subst hlv;rw[HNL.out] at hrun;clear hl;have BB:Below wq.heap.size wq wB:=Bel.after BA ah;refine jC (zZ rfl rfl rfl hrun) (r _ _ ⟨I _ BB,?_⟩);try simp only[Act.put,sT,sZ,sS]
      clear r;have ao:=I _ BB;refine tkA 14 ⟨some 32,.build 43 #[(1,.tmp 25),(2,.tmp 31)],43,"l02_fn.go:117",#[⟨7,.data⟩,⟨13,.data⟩],none⟩ ?_ (fun w h=>?_) ?_;rotate_left
      ·(try dsimp only at h);go_simp;(try with_reducible rfl)
      try simp only[Act.put,sT,sZ,sS]
      clear ao;refine jg (i:=15) (o:=⟨some 5,.alloc 43,0,"l02_fn.go:117",#[],none⟩) rfl rfl (by kernel_rfl) (fun K9 r=>?_);refine jC (v:=.pointer (some ⟨wB.heap.size,0,none⟩)) (w':=wB.alloc (.cells #[.slice none 0 0,.slice none 0 0,.int .i64 0,.int .i64 0,.int .i64 0,.int .i64 0] 43)) (by simp[execOp,go_sem]) (r _ _ ⟨I _ (Bel.after BB (Bel.alloc _ _)),?_⟩);try simp only[Act.put,sT,sZ,sS]
      clear r;obtain⟨wC,hgwC⟩:∃W,wB.alloc (.cells #[.slice none 0 0,.slice none 0 0,.int .i64 0,.int .i64 0,.int .i64 0,.int .i64 0] 43)=W:=⟨_,rfl⟩;have BC:Below wq.heap.size wq wC:=by rw[←hgwC];exact Bel.after BB (Bel.alloc _ _)
      have U:Below wB.heap.size wB wC:=by rw[←hgwC];exact Bel.alloc _ _
      have aA:wC.heap[wB.heap.size]?=some (.cells #[.slice none 0 0,.slice none 0 0,.int .i64 0,.int .i64 0,.int .i64 0,.int .i64 0] 43 (0,0)):=by rw[←hgwC];exact World.alloc_heap_new _ _
      have aP:wC.heap.size=wB.heap.size+1:=by rw[←hgwC];simp
      rw[hgwC];refine jg (i:=16) (o:=⟨none,.store 43 (.tmp 5) (.tmp 32),0,"l02_fn.go:117",#[⟨15,.data⟩,⟨14,.data⟩,⟨7,.chain⟩,⟨0,.phase⟩,⟨1,.phase⟩,⟨2,.phase⟩,⟨3,.phase⟩,⟨4,.phase⟩,⟨5,.phase⟩,⟨6,.phase⟩,⟨7,.phase⟩,⟨8,.phase⟩,⟨9,.phase⟩,⟨10,.phase⟩,⟨11,.phase⟩,⟨12,.phase⟩,⟨13,.phase⟩,⟨14,.phase⟩,⟨15,.phase⟩],none⟩) rfl rfl (by kernel_rfl) (fun K9 r=>?_);have G:=aA;have aU:=BA.size;have aV:=BB.size;have c0:wC.cell? ⟨wB.heap.size,0,none⟩=some (.slice none 0 0):=by simp[World.cell?,G]
      have c1:wC.cell? ⟨wB.heap.size,1,none⟩=some (.slice none 0 0):=by simp[World.cell?,G]
      have c2:wC.cell? ⟨wB.heap.size,2,none⟩=some (.int .i64 0):=by simp[World.cell?,G]
      have c3:wC.cell? ⟨wB.heap.size,3,none⟩=some (.int .i64 0):=by simp[World.cell?,G]
      have c4:wC.cell? ⟨wB.heap.size,4,none⟩=some (.int .i64 0):=by simp[World.cell?,G]
      have c5:wC.cell? ⟨wB.heap.size,5,none⟩=some (.int .i64 0):=by simp[World.cell?,G]
      have z0:wC.frozen? ⟨wB.heap.size,0,none⟩=false:=by simp[World.frozen?,G]
      have z1:wC.frozen? ⟨wB.heap.size,1,none⟩=false:=by simp[World.frozen?,G]
      have z2:wC.frozen? ⟨wB.heap.size,2,none⟩=false:=by simp[World.frozen?,G]
      have z3:wC.frozen? ⟨wB.heap.size,3,none⟩=false:=by simp[World.frozen?,G]
      have z4:wC.frozen? ⟨wB.heap.size,4,none⟩=false:=by simp[World.frozen?,G]
      have z5:wC.frozen? ⟨wB.heap.size,5,none⟩=false:=by simp[World.frozen?,G]
      have BP:Below wq.heap.size wq (xF wC wB.heap.size (.slice B nl lcap') tk ta tt te):=BC.trans ((qx wC wB.heap.size _ _ _ _ _).below (by have:=BC.size;omega) (by omega));refine Jy (w':=xF wC wB.heap.size (.slice B nl lcap') tk ta tt te) (by simp[execOp,go_sem,xF,c0,c1,c2,c3,c4,c5,z0,z1,z2,z3,z4,z5]) (r _ _ ⟨I _ BP,?_⟩);clear r;refine wpAnyH_done (by kernel_rfl) ?_ _;simp only[onlyEnd];exact⟨wB.heap.size,B,lcap',_,_,_,_,_,_,_,_,_,_,_,_,_,_,_,rfl,JC G _ _ _ _ _,by omega,HL.out.put (fun hx e=>hx.same e) BA.size (fun b _ h1 h2=>((qx wC wB.heap.size _ _ _ _ _).block b (by omega) (by omega)).trans (U.block b h2)),ak.out.turn (fun hp=>by obtain⟨g,e,h1,h2,_⟩:=HL.out (by have:=HNL.out;omega);exact⟨g,e,((qx wC wB.heap.size _ _ _ _ _).block g (by omega) (by omega)).trans (U.block g h2)⟩),(fun b h1 h2=>by obtain⟨g,e,_,h3,_⟩:=HL.out h2;have e2:=h1.symm.trans e;simp at e2;omega),BP⟩
     ·refine jC (v:=.pointer (some ⟨wA.heap.size,0,none⟩)) (w':=wA.alloc (.cells #[.slice none 0 0,.slice none 0 0,.int .i64 0,.int .i64 0,.int .i64 0,.int .i64 0] 43)) (by simp[execOp,go_sem]) (r _ _ ⟨I _ (Bel.after BA (Bel.alloc _ _)),?_⟩);try simp only[Act.put,sT,sZ,sS]
      clear r;obtain⟨wB,hgwB⟩:∃W,wA.alloc (.cells #[.slice none 0 0,.slice none 0 0,.int .i64 0,.int .i64 0,.int .i64 0,.int .i64 0] 43)=W:=⟨_,rfl⟩;have BB:Below wq.heap.size wq wB:=by rw[←hgwB];exact Bel.after BA (Bel.alloc _ _)
      have ah:Below wA.heap.size wA wB:=by rw[←hgwB];exact Bel.alloc _ _
      have aA:wB.heap[wA.heap.size]?=some (.cells #[.slice none 0 0,.slice none 0 0,.int .i64 0,.int .i64 0,.int .i64 0,.int .i64 0] 43 (0,0)):=by rw[←hgwB];exact World.alloc_heap_new _ _
      have aP:wB.heap.size=wA.heap.size+1:=by rw[←hgwB];simp
      rw[hgwB];refine jg (i:=7) (o:=⟨some 25,.call ⟨.builtin .append,#[.tmp 18,.tmp 24],#[39,39]⟩,39,"l02_fn.go:117",#[⟨0,.data⟩,⟨6,.data⟩],none⟩) rfl rfl (by kernel_rfl) (fun K9 r=>?_);obtain⟨bg,wC,hrun,hl,U⟩:=abF wD.heap.size (.slice la nl lcap) x.list wB (aG.out.keep (fun b o z hb h=>h.keep (kM.jK (L.out.bel.trans (BB.mono L.out.bel.size)) 0) hb)) ai.out.2.1 39;obtain⟨B,lcap',hlv,hl,hrm⟩:=hl;have HL:Hid (yQ 5 jU wB.heap.size wC B x.list):=hl;have ak:Hid (Jm wC B nl lcap'):=by rw[HNL.out] at hrm;exact hrm
      clear hrm;subst hlv;rw[HNL.out] at hrun;clear hl;have BC:Below wq.heap.size wq wC:=Bel.after BB U;refine jC (zZ rfl rfl rfl hrun) (r _ _ ⟨I _ BC,?_⟩);try simp only[Act.put,sT,sZ,sS]
      clear r;have ao:=I _ BC;refine tkA 14 ⟨some 32,.build 43 #[(1,.tmp 25),(2,.tmp 31)],43,"l02_fn.go:117",#[⟨7,.data⟩,⟨13,.data⟩],none⟩ ?_ (fun w h=>?_) ?_;rotate_left
      ·(try dsimp only at h);go_simp;(try with_reducible rfl)
      try simp only[Act.put,sT,sZ,sS]
      clear ao;refine jg (i:=16) (o:=⟨none,.store 43 (.tmp 5) (.tmp 32),0,"l02_fn.go:117",#[⟨15,.data⟩,⟨14,.data⟩,⟨7,.chain⟩,⟨0,.phase⟩,⟨1,.phase⟩,⟨2,.phase⟩,⟨3,.phase⟩,⟨4,.phase⟩,⟨5,.phase⟩,⟨6,.phase⟩,⟨7,.phase⟩,⟨8,.phase⟩,⟨9,.phase⟩,⟨10,.phase⟩,⟨11,.phase⟩,⟨12,.phase⟩,⟨13,.phase⟩,⟨14,.phase⟩,⟨15,.phase⟩],none⟩) rfl rfl (by kernel_rfl) (fun K9 r=>?_);have G:=(U.block _ (by omega)).trans aA;have aU:=BA.size;have aV:=BB.size;have bf:=U.size;have c0:wC.cell? ⟨wA.heap.size,0,none⟩=some (.slice none 0 0):=by simp[World.cell?,G]
      have c1:wC.cell? ⟨wA.heap.size,1,none⟩=some (.slice none 0 0):=by simp[World.cell?,G]
      have c2:wC.cell? ⟨wA.heap.size,2,none⟩=some (.int .i64 0):=by simp[World.cell?,G]
      have c3:wC.cell? ⟨wA.heap.size,3,none⟩=some (.int .i64 0):=by simp[World.cell?,G]
      have c4:wC.cell? ⟨wA.heap.size,4,none⟩=some (.int .i64 0):=by simp[World.cell?,G]
      have c5:wC.cell? ⟨wA.heap.size,5,none⟩=some (.int .i64 0):=by simp[World.cell?,G]
      have z0:wC.frozen? ⟨wA.heap.size,0,none⟩=false:=by simp[World.frozen?,G]
      have z1:wC.frozen? ⟨wA.heap.size,1,none⟩=false:=by simp[World.frozen?,G]
      have z2:wC.frozen? ⟨wA.heap.size,2,none⟩=false:=by simp[World.frozen?,G]
      have z3:wC.frozen? ⟨wA.heap.size,3,none⟩=false:=by simp[World.frozen?,G]
      have z4:wC.frozen? ⟨wA.heap.size,4,none⟩=false:=by simp[World.frozen?,G]
      have z5:wC.frozen? ⟨wA.heap.size,5,none⟩=false:=by simp[World.frozen?,G]
      have BP:Below wq.heap.size wq (xF wC wA.heap.size (.slice B nl lcap') tk ta tt te):=BC.trans ((qx wC wA.heap.size _ _ _ _ _).below (by have:=BC.size;omega) (by omega));refine Jy (w':=xF wC wA.heap.size (.slice B nl lcap') tk ta tt te) (by simp[execOp,go_sem,xF,c0,c1,c2,c3,c4,c5,z0,z1,z2,z3,z4,z5]) (r _ _ ⟨I _ BP,?_⟩);clear r;refine wpAnyH_done (by kernel_rfl) ?_ _;simp only[onlyEnd];exact⟨wA.heap.size,B,lcap',_,_,_,_,_,_,_,_,_,_,_,_,_,_,_,rfl,JC G _ _ _ _ _,by omega,HL.out.put (fun hx e=>hx.same e) BB.size (fun b _ h1 h2=>(qx wC wA.heap.size _ _ _ _ _).block b (by omega) (by omega)),ak.out.turn (fun hp=>by obtain⟨g,e,h1,h2,_⟩:=HL.out (by have:=HNL.out;omega);exact⟨g,e,(qx wC wA.heap.size _ _ _ _ _).block g (by omega) (by omega)⟩),(fun b h1 h2=>by obtain⟨g,e,h3,_⟩:=HL.out h2;have e2:=h1.symm.trans e;simp at e2;omega),BP⟩
    ·refine jC (v:=.pointer (some ⟨wD.heap.size,0,none⟩)) (w':=wD.alloc (.cells #[.slice none 0 0,.slice none 0 0,.int .i64 0,.int .i64 0,.int .i64 0,.int .i64 0] 43)) (by simp[execOp,go_sem]) (r _ _ ⟨I _ (Bel.after BD (Bel.alloc _ _)),?_⟩);try simp only[Act.put,sT,sZ,sS]
     clear r;obtain⟨wA,hgwA⟩:∃W,wD.alloc (.cells #[.slice none 0 0,.slice none 0 0,.int .i64 0,.int .i64 0,.int .i64 0,.int .i64 0] 43)=W:=⟨_,rfl⟩;have BA:Below wq.heap.size wq wA:=by rw[←hgwA];exact Bel.after BD (Bel.alloc _ _)
     have bN:Below wD.heap.size wD wA:=by rw[←hgwA];exact Bel.alloc _ _
     have aA:wA.heap[wD.heap.size]?=some (.cells #[.slice none 0 0,.slice none 0 0,.int .i64 0,.int .i64 0,.int .i64 0,.int .i64 0] 43 (0,0)):=by rw[←hgwA];exact World.alloc_heap_new _ _
     have aP:wA.heap.size=wD.heap.size+1:=by rw[←hgwA];simp
     rw[hgwA];refine jg (i:=0) (o:=⟨some 18,.buildSlice 39 0 #[],39,"l02_fn.go:117",#[],none⟩) rfl rfl (by kernel_rfl) (fun K9 r=>?_);refine jC (v:=.slice (some ⟨wA.heap.size,0,none⟩) 0 0) (w':=wA.alloc (.cells #[] 47)) (by simp[execOp,Instr.buildSlice,go_sem]) (r _ _ ⟨I _ (Bel.after BA (Bel.alloc _ _)),?_⟩);try simp only[Act.put,sT,sZ,sS]
     clear r;obtain⟨wB,hgwB⟩:∃W,wA.alloc (.cells #[] 47)=W:=⟨_,rfl⟩;have BB:Below wq.heap.size wq wB:=by rw[←hgwB];exact Bel.after BA (Bel.alloc _ _)
     have ah:Below wA.heap.size wA wB:=by rw[←hgwB];exact Bel.alloc _ _
     rw[hgwB];refine jg (i:=7) (o:=⟨some 25,.call ⟨.builtin .append,#[.tmp 18,.tmp 24],#[39,39]⟩,39,"l02_fn.go:117",#[⟨0,.data⟩,⟨6,.data⟩],none⟩) rfl rfl (by kernel_rfl) (fun K9 r=>?_);obtain⟨bg,wC,hrun,hl,U⟩:=abF wA.heap.size (.slice la nl lcap) x.list wB (aG.out.keep (fun b o z hb h=>h.keep (kM.jK (L.out.bel.trans (BB.mono L.out.bel.size)) 0) hb)) ai.out.2.1 39;obtain⟨B,lcap',hlv,hl,hrm⟩:=hl;have HL:Hid (yQ 5 jU wB.heap.size wC B x.list):=hl;have ak:Hid (Jm wC B nl lcap'):=by rw[HNL.out] at hrm;exact hrm
     clear hrm;subst hlv;rw[HNL.out] at hrun;clear hl;have BC:Below wq.heap.size wq wC:=Bel.after BB U;refine jC (zZ rfl rfl rfl hrun) (r _ _ ⟨I _ BC,?_⟩);try simp only[Act.put,sT,sZ,sS]
     clear r;have ao:=I _ BC;refine tkA 14 ⟨some 32,.build 43 #[(1,.tmp 25),(2,.tmp 31)],43,"l02_fn.go:117",#[⟨7,.data⟩,⟨13,.data⟩],none⟩ ?_ (fun w h=>?_) ?_;rotate_left
     ·(try dsimp only at h);go_simp;(try with_reducible rfl)
     try simp only[Act.put,sT,sZ,sS]
     clear ao;refine jg (i:=16) (o:=⟨none,.store 43 (.tmp 5) (.tmp 32),0,"l02_fn.go:117",#[⟨15,.data⟩,⟨14,.data⟩,⟨7,.chain⟩,⟨0,.phase⟩,⟨1,.phase⟩,⟨2,.phase⟩,⟨3,.phase⟩,⟨4,.phase⟩,⟨5,.phase⟩,⟨6,.phase⟩,⟨7,.phase⟩,⟨8,.phase⟩,⟨9,.phase⟩,⟨10,.phase⟩,⟨11,.phase⟩,⟨12,.phase⟩,⟨13,.phase⟩,⟨14,.phase⟩,⟨15,.phase⟩],none⟩) rfl rfl (by kernel_rfl) (fun K9 r=>?_);have aU:=BA.size;have aV:=ah.size;have bf:=U.size;have G:=(U.block _ (by omega)).trans ((ah.block _ (by omega)).trans aA);have c0:wC.cell? ⟨wD.heap.size,0,none⟩=some (.slice none 0 0):=by simp[World.cell?,G]
     have c1:wC.cell? ⟨wD.heap.size,1,none⟩=some (.slice none 0 0):=by simp[World.cell?,G]
     have c2:wC.cell? ⟨wD.heap.size,2,none⟩=some (.int .i64 0):=by simp[World.cell?,G]
     have c3:wC.cell? ⟨wD.heap.size,3,none⟩=some (.int .i64 0):=by simp[World.cell?,G]
     have c4:wC.cell? ⟨wD.heap.size,4,none⟩=some (.int .i64 0):=by simp[World.cell?,G]
     have c5:wC.cell? ⟨wD.heap.size,5,none⟩=some (.int .i64 0):=by simp[World.cell?,G]
     have z0:wC.frozen? ⟨wD.heap.size,0,none⟩=false:=by simp[World.frozen?,G]
     have z1:wC.frozen? ⟨wD.heap.size,1,none⟩=false:=by simp[World.frozen?,G]
     have z2:wC.frozen? ⟨wD.heap.size,2,none⟩=false:=by simp[World.frozen?,G]
     have z3:wC.frozen? ⟨wD.heap.size,3,none⟩=false:=by simp[World.frozen?,G]
     have z4:wC.frozen? ⟨wD.heap.size,4,none⟩=false:=by simp[World.frozen?,G]
     have z5:wC.frozen? ⟨wD.heap.size,5,none⟩=false:=by simp[World.frozen?,G]
     have BP:Below wq.heap.size wq (xF wC wD.heap.size (.slice B nl lcap') tk ta tt te):=BC.trans ((qx wC wD.heap.size _ _ _ _ _).below (by have:=BC.size;omega) (by omega));refine Jy (w':=xF wC wD.heap.size (.slice B nl lcap') tk ta tt te) (by simp[execOp,go_sem,xF,c0,c1,c2,c3,c4,c5,z0,z1,z2,z3,z4,z5]) (r _ _ ⟨I _ BP,?_⟩);clear r;refine wpAnyH_done (by kernel_rfl) ?_ _;simp only[onlyEnd];exact⟨wD.heap.size,B,lcap',_,_,_,_,_,_,_,_,_,_,_,_,_,_,_,rfl,JC G _ _ _ _ _,by omega,HL.out.put (fun hx e=>hx.same e) BB.size (fun b _ h1 h2=>(qx wC wD.heap.size _ _ _ _ _).block b (by omega) (by omega)),ak.out.turn (fun hp=>by obtain⟨g,e,h1,h2,_⟩:=HL.out (by have:=HNL.out;omega);exact⟨g,e,(qx wC wD.heap.size _ _ _ _ _).block g (by omega) (by omega)⟩),(fun b h1 h2=>by obtain⟨g,e,h3,_⟩:=HL.out h2;have e2:=h1.symm.trans e;simp at e2;omega),BP⟩
  ·have bF:k=n:=by omega
   subst bF;obtain⟨oa,ocap,own,hbo,hrw,how,hon⟩:=hcu.row;have au:F.blocks.take k=F.blocks:=List.take_of_length_le (by have:=HN.out;omega);rw[au] at hrw;have aM:FnO (w.heap.size+1+1) (fun b=>if (Value.slice oa k ocap).ownBlock=some b then(0,0,0) else own b) wq (.slice oa k ocap) F.blocks:=by
    have M:∀b,(own b).1≤3→(if (Value.slice oa k ocap).ownBlock=some b then(0,0,0) else own b)=own b:=fun b hb=>by rw[if_neg (fun e=>hon b hb e.symm)]
    refine⟨hrw.readO (by have:=HN.out;omega) (fun b hb=>by rw[if_pos hb]) (fun g o i x ys hG hc=>?_),fun g hg=>?_,fun g hg=>?_,fun g hg=>?_⟩
    ·obtain⟨pv,lv,rfl,hp,hl,_⟩:=Qm.more M hG;exact⟨pv,lv,hc 0 _ rfl,hc 1 _ rfl,hc 2 _ rfl,hc 3 _ rfl,hc 4 _ rfl,hc 5 _ rfl,hp,hl⟩
    ·by_cases e:(Value.slice oa k ocap).ownBlock=some g
     ·have:=(hrw.aaz e).1;omega
     ·rw[if_neg e] at hg;have:=(how g hg).1;omega
    ·by_cases e:(Value.slice oa k ocap).ownBlock=some g
     ·exact(hrw.aaz e).2.1
     ·rw[if_neg e] at hg;exact(how g hg).2.1
    ·by_cases e:(Value.slice oa k ocap).ownBlock=some g
     ·exact(hrw.aaz e).2.2
     ·rw[if_neg e] at hg;exact(how g hg).2.2
   have a7:kI (fun b=>if (Value.slice oa k ocap).ownBlock=some b then(0,0,0) else own b) wq w.heap.size (.slice oa k ocap) F.blocks.length:=by
    obtain⟨xs,h9,_⟩:=hrw;rw[List.length_zipIdx] at h9;exact(kI.of h9 (fun g hg=>if_pos hg)).low (by omega)
   have a6:z6 (fun b=>if (Value.slice oa k ocap).ownBlock=some b then(0,0,0) else own b) wq (.slice oa k ocap) F.blocks:=by
    refine hrw.readO (by have:=HN.out;omega) (fun b hb=>by dsimp only;rw[if_pos hb]) (fun g o i x ys hG hc=>?_);obtain⟨pv,lv,rfl,hp,hl,hrm⟩:=hG;obtain⟨bO,cap9,e9⟩:=hl.is;subst e9;exact⟨bO,cap9,hc 1 _ rfl,hrm _ _ _ rfl⟩
   have ag:∀g,(if (Value.slice oa k ocap).ownBlock=some g then((0:Nat),(0:Nat),(0:Nat)) else own g)=(0,0,0)→g≠w.heap.size+1:=fun g hg e=>by
    have h8:(if (Value.slice oa k ocap).ownBlock=some g then((0:Nat),(0:Nat),(0:Nat)) else own g).1≤3:=by rw[hg];simp
    have:=aM.low g h8;omega
   have bk:Hid (z6 (fun b=>if (Value.slice oa k ocap).ownBlock=some b then(0,0,0) else own b) wq (.slice oa k ocap) F.blocks):=a6;have aY:Hid (∀g,(if (Value.slice oa k ocap).ownBlock=some g then((0:Nat),(0:Nat),(0:Nat)) else own g)=(0,0,0)→g≠w.heap.size+1):=ag;clear a6 ag;have bp:Hid (kI (fun b=>if (Value.slice oa k ocap).ownBlock=some b then(0,0,0) else own b) wq w.heap.size (.slice oa k ocap) F.blocks.length):=a7;obtain⟨r0,r1,hF4,hB4⟩:=zz (w:=w) (vals:=vals) (by omega) L.out.br aM L.out.bel;have m0:wq.cell? ⟨w.heap.size+1+1,0,none⟩=some (.slice oa k ocap):=by simp[World.cell?,hbo]
   have m1:wq.cell? ⟨w.heap.size+1+1,1,none⟩=some (.int .i64 vals):=by simp[World.cell?,hbo]
   have y0:wq.cell? ⟨w.heap.size+1,0,none⟩=some (.slice none 0 0):=by simp[World.cell?,hcu.br]
   have y1:wq.cell? ⟨w.heap.size+1,1,none⟩=some (.int .i64 0):=by simp[World.cell?,hcu.br]
   have z0:wq.frozen? ⟨w.heap.size+1,0,none⟩=false:=by simp[World.frozen?,hcu.br]
   have z1:wq.frozen? ⟨w.heap.size+1,1,none⟩=false:=by simp[World.frozen?,hcu.br]
   clear aM hcu hrw hbo how hon a7;go_wp2_with fail
   refine bodyPost_ret (v:=.agg #[.slice oa k ocap,.int .i64 vals]) (by simp[results,Tryz.results100,go_sem,r0,r1]) rfl ?_;exact⟨_,_,by rw[HV.out],hF4,(bp.out.set _ _ _).set _ _ _,(bk.out.set aY.out L.out.br 0 _).set aY.out (aeN L.out.br _) 1 _,hB4⟩
theorem adU (v:Value)(F:FnD)(w:World)(hF:kJ w v F)(hs:JR F) :
  Calls Tryz.prog 100 #[v] w fun e w'=>GivesOR w F e w' :=
 (Yi v F w hF hs).mono (fun e w' ⟨bv,own,h1,h2,h3,_,h4⟩=>⟨bv,own,h1,h2,h3,h4⟩)
end Go.Proofs.YtkbhbekfniadhaaGreat
