/- The places of a list from the last one on: the library's iterator, by its contract. From the end of a block to its beginning: the program's iterator, with the set that it keeps, by its contract. -/
import Derived.Test.YtkbhbekfniadhaaGreatTk0
import Derived.Test.YtkbhbekfniadhaaGreatKLSp
import Derived.Test.YtkbhbekfniadhaaGreatKTo
import Derived.Test.YtkbhbekfniadhaaGreatKIns
import Derived.Test.YtkbhbekfniadhaaGreatKLSet
import Derived.Test.YtkbhbekfniadhaaGreatKLDef
set_option maxRecDepth 100000
set_option maxHeartbeats 8000000
namespace Go.Proofs.YtkbhbekfniadhaaGreat
open Go.ChangeShapes Go.WideShapes Go.ChangeAt Go.RowKit Go.Shelf
set_option linter.unusedVariables false
attribute [local go_sem] Oper.semAt_some
def zR (P:Nat→Prop)(W W':World):Prop := ∀(k:Nat) (o:Obj),P k→W.heap[k]?=some o→W'.heap[k]?=some o
theorem zR.cell {P:Nat→Prop}{W W':World}(h:zR P W W'){p:Addr}{v:Value}(hp:P p.block)(hc:W.cell? p=some v):W'.cell? p=some v:=by
 unfold World.cell? at hc ⊢;cases e:W.heap[p.block]? with
 | none=>rw[e] at hc;cases hc
 | some o=>rw[e] at hc;rw[h _ _ hp e];exact hc
theorem zR.places {P:Nat→Prop}{W W':World}(h:zR P W W'){la:Option Addr}{ln lcap:Nat}(hP:∀b off,la=some (Z b off)→P b){X:List kS}(hL:jz 0 5 jU W (.slice la ln lcap) X):jz 0 5 jU W' (.slice la ln lcap) X:=by
 obtain⟨a,cap,e,hm,hc⟩:=hL;refine⟨a,cap,e,hm,fun hp=>?_⟩;obtain⟨b,off,rfl,hlo,hx⟩:=hc hp;simp at e;refine⟨b,off,rfl,hlo,fun i x hi=>?_⟩;obtain⟨c0,c1,c2,c3,c4⟩:=hx i x hi;have hb:=hP b off e.1;exact⟨h.cell hb c0,h.cell hb c1,h.cell hb c2,h.cell hb c3,h.cell hb c4⟩
theorem ZG {W:World}{la:Option Addr}{ln lcap:Nat}{X:List kS}(hL:jz 0 5 jU W (.slice la ln lcap) X){j:Nat}{x:kS}(h:X[j]?=some x):∃b off,la=some (Z b off)∧jU W b (off+j*5) x:=by
 obtain⟨a,cap,e,hm,hc⟩:=hL;have hj:j<X.length:=(List.getElem?_eq_some_iff.1 h).1;obtain⟨b,off,rfl,hlo,hx⟩:=hc (by omega);simp at e;exact⟨b,off,e.1,hx j x h⟩
theorem adX (la:Option Addr)(ln lcap:Nat)(w:World) :
  Calls Tryz.prog 71 #[.slice la ln lcap] w fun r w'=>r=.returned (.func (.func 92) #[] #[.pointer (some (Z w.heap.size 0))])∧w'=w.alloc (.cells #[.slice la ln lcap] 39):=by
 go_enter Tryz.func71,Tryz.ntmps71
 go_wp2;go_ret;exact⟨rfl,rfl⟩
def ag9 (y:Int × kS):Array Value := #[vi y.1,.agg #[vi y.2.op,vi y.2.d,vi y.2.a,vi y.2.b,vi y.2.n]]
def bkOd (X:List kS)(pre:List (Int × kS))(y:Int × kS):Prop := ∃j:Nat,pre.length+(j+1)=X.length∧y.1=(j:Int)∧X[j]?=some y.2
theorem back_seq (n:Nat)(hn:1≤n)(l B:Nat)(X:List kS)(la:Option Addr)(ln lcap:Nat)(P:Nat→Prop)(hPB:P B)(hPl:0<ln→∀b off,la=some (Z b off)→P b)(J Jx:List (Int × kS)→World→Prop)
  (hY:∀pre y W,J pre W→bkOd X pre y→YieldAt Fence.wide (n-1) Tryz.prog l (ag9 y) W fun r W'=>
   (r=.returned (.bool true)∧J (pre ++ [y]) W'∧zR P W W')∨(r=.returned (.bool false)∧Jx (pre ++ [y]) W'))
  (W:World) (hB:W.cell? (Z B 0)=some (.slice la ln lcap)) (hL:jz 0 5 jU W (.slice la ln lcap) X) (hln:X.length=ln) (h0:J [] W) :
  CallsIn Fence.wide n Tryz.prog 92 #[.func (.yield l) #[] #[],.pointer (some (Z B 0))] W fun r W'=>(∃v,r=.returned v) ∧
   ((∃ys:List (Int × kS),ys.length=ln∧J ys W')∨(∃pre:List (Int × kS),Jx pre W')):=by
 have HN:Hid (X.length=ln):=hln
 have HY:Hid (∀pre y W,J pre W→bkOd X pre y→YieldAt Fence.wide (n-1) Tryz.prog l (ag9 y) W fun r W'=>
   (r=.returned (.bool true)∧J (pre ++ [y]) W'∧zR P W W')∨(r=.returned (.bool false)∧Jx (pre ++ [y]) W')):=hY
 have HL:Hid (jz 0 5 jU W (.slice la ln lcap) X):=hL;have HP:Hid (P B):=hPB;have I:Hid (0<ln→∀b off,la=some (Z b off)→P b):=hPl;have H0:Hid (J [] W):=h0;have H:ln≤9223372036854775807:=by obtain⟨a,cap,e,hm,_⟩:=hL;rw[hln] at hm;exact hm
 clear hln hY hL hPB hPl h0;refine callsIn_of_wp Tryz.func92 rfl trivial ?_ rfl;simp only[Tryz.ntmps92,List.size_toArray,List.length_cons,List.length_nil,Nat.reduceAdd,Nat.reduceSub,Array.replicate_succ,Array.replicate_zero,List.push_toArray,List.append_toArray,List.nil_append,List.cons_append]
 gi_wp2
 gi_loopw [3] (fun i wr=>∃(m:Nat) (pre:List (Int × kS)),pre.length+m=ln∧i=vi ((m:Int)-1)∧J pre wr∧wr.cell? (Z B 0)=some (.slice la ln lcap)∧jz 0 5 jU wr (.slice la ln lcap) X) (fun i _=>(intOf i+1).toNat)
 case atStart=>exact⟨ln,[],by simp,rfl,H0.out,hB,HL.out⟩
 case round=>
  obtain⟨wq,hwq⟩:∃x,x=wr:=⟨_,rfl⟩;subst hwq;obtain⟨m,pre,hpl,rfl,hJ,hBq,hLq⟩:=hrel;have h:Hid (pre.length+m=ln):=hpl;have HJ:Hid (J pre wq):=hJ;have t:Hid (jz 0 5 jU wq (.slice la ln lcap) X):=hLq;clear hJ hLq;cases m with
  | zero=>
   obtain⟨z,hz⟩:∃z:Int,((0:Nat):Int)-1=z:=⟨_,rfl⟩;rw[hz];have O:z<0:=by omega
   clear hz hpl
   gi_wp2
   go_end0
   exact⟨⟨_,rfl⟩,.inl ⟨pre,h.out,HJ.out⟩⟩
  | succ j=>
   have G:j<X.length:=by have:=HN.out;omega
   obtain⟨x,HX⟩:∃x,Hid (X[j]?=some x):=⟨X[j],List.getElem?_eq_getElem G⟩;rw[show((j+1:Nat):Int)-1=(j:Int) by omega];obtain⟨b,off,hla,c0,c1,c2,c3,c4⟩:=ZG t.out HX.out;have M:(j:Int)<(ln:Int):=by omega
   subst hla;obtain⟨fn,tmps,assign,body,hy,hR⟩:=HY.out pre ((j:Int),x) wq HJ.out ⟨j,by rw[HN.out];exact h.out,rfl,HX.out⟩;obtain⟨x0,x1,x2,x3,x4⟩:=x;dsimp only[ag9] at hy c0 c1 c2 c3 c4;clear G hpl
   gi_wp2
   refine hR.mono ?_;rintro e W3 (⟨rfl,hJ3,hk3⟩ | ⟨rfl,hJx3⟩)
   ·have K:=hk3.cell (p:=(Z B 0)) HP.out hBq;have L:=hk3.places (I.out (by omega)) t.out
    gi_wp2
    go_roundw
    case rel=>exact⟨j,_,by simp;have:=h.out;omega,rfl,hJ3,K,L⟩
    case measure=>simp[intOf]
   ·gi_wp2
    refine bodyPost_ret (results_none rfl _ _ _) rfl ?_;exact⟨⟨_,rfl⟩,.inr ⟨_,hJx3⟩⟩
theorem back_ord (n:Nat)(hn:1≤n)(B:Nat)(X:List kS)(la:Option Addr)(ln lcap:Nat)(P:Nat→Prop)(hPB:P B)(hPl:0<ln→∀b off,la=some (Z b off)→P b)(w:World)(hB:w.cell? (Z B 0)=some (.slice la ln lcap))(hL:jz 0 5 jU w (.slice la ln lcap) X)(hln:X.length=ln) :
  SeqOrd Fence.wide n Tryz.prog 92 #[.pointer (some (Z B 0))] ag9 (zR P) (bkOd X) (fun ys=>ys.length=ln) w:=fun l J Jx W hW _ _ hY h0=>
 back_seq n hn l B X la ln lcap P hPB hPl J Jx hY W (Bel.keeps hW hB) (kN hL (kM.jK hW 0)) hln h0
theorem aha {P:Nat→Prop}{A B C:World}(h:zR P A B)(k:zR P B C):zR P A C:=fun i o hp h1=>k i o hp (h i o hp h1)
end Go.Proofs.YtkbhbekfniadhaaGreat
namespace Go.Proofs.YtkbhbekfniadhaaGreat
open Go.ChangeShapes Go.WideShapes Go.ChangeAt Go.RowKit Go.Shelf
set_option linter.unusedVariables false
attribute [local go_sem] Oper.semAt_some
theorem kr.below {w w':World}{g o:Nat}{ob:Option Nat}{sv':Value}(h:kr w w' g o ob sv'){lo:Nat}(hg:lo≤g)(ho:∀k,ob=some k→lo≤k)(hlo:lo≤w.heap.size):Below lo w w' :=
 ⟨h.os,h.tape,h.output,h.size,fun k hk=>h.block k (by omega) (by omega) (fun e=>by have:=ho k e.symm;omega)⟩
theorem ahb {W:World}{lo:Nat}{sv:Value}{l:List Int}(h:ja W lo sv l)(T:TypeId):qc (W.alloc (.cells #[sv] T)) lo W.heap.size 0 sv l:=by
 exact⟨by simp[go_sem],by simp[go_sem],h.keep (Bel.alloc _ _),fun e=>by have:=(h.lt _ e).2;omega⟩
theorem ja.keepX {x B:Nat}{W W':World}(k:jZ x B W W'){lo:Nat}{sv:Value}{l:List Int}(h:ja W lo sv l)(hx:sv.ownBlock≠some x):ja W' lo sv l:=by
 rcases h with ⟨h0,h1 | ⟨g',cap,cur,rfl,h2,h3,h4⟩⟩
 ·exact⟨h0,.inl h1⟩
 ·exact⟨h0,.inr ⟨g',cap,cur,rfl,h2,k.box (fun e=>hx (by simp[Value.ownBlock,e])) h3,h4⟩⟩
theorem qc.keepX {x B:Nat}{W W':World}(k:jZ x B W W'){lo g o:Nat}{sv:Value}{l:List Int}(h:qc W lo g o sv l)(hg:g≠x)(hx:sv.ownBlock≠some x):qc W' lo g o sv l:=by
 obtain⟨us,e,z,hb,hu⟩:=Xc h;have r:=k.box hg hb;exact⟨k.cell (p:=(Z g o)) hg h.cell,(World.frozen?_of_block (w:=W) (a:=(Z g o)) (r.trans hb.symm)).trans h.fz,h.row.keepX k hx,h.ne⟩
def bEnc (y:Int × Value):Array Value := #[vi y.1,.agg #[y.2]]
def ahc : Value→Nat
 | .slice _ n _=>n
 | _=>0
def bDt (X:jc)(o:List Int)(lo:Nat)(y:Int × Value)(W:World):Prop := ∃j:Nat,j≤X.list.length∧y.1=(j:Int)∧ja W lo y.2 (atS X o j)
def bS (X:jc)(o:List Int)(lo:Nat)(ys:List (Int × Value))(W:World):Prop:=ys.map (fun y=>(y.1,ahc y.2))=qZ X o (X.list.length+1)∧∃y,ys.getLast? = some y∧ja W lo y.2 (atS X o 0)
theorem ja.ahc {w:World}{lo:Nat}{v:Value}{l:List Int}(h:ja w lo v l):ahc v=l.length:=by
 rcases h.shape with ⟨rfl,rfl⟩ | ⟨g,cap,rfl⟩ <;> rfl
structure ZH (V V':World)(g:Nat)(sv:Value):Prop where
 size:V.heap.size≤V'.heap.size
 same:∀(k:Nat) (ob:Obj),V.heap[k]?=some ob→k≠g→some k≠sv.ownBlock→V'.heap[k]?=some ob
theorem kr.stepK {V V':World}{g o:Nat}{sv sv':Value}(h:kr V V' g o sv.ownBlock sv'):ZH V V' g sv:=⟨h.size,fun k ob h1 h2 h3=>(h.block k (aI h1).1 h2 h3).trans h1⟩
theorem ZH.below {V V':World}{g:Nat}{sv:Value}(h:Below V.heap.size V V'):ZH V V' g sv:=⟨h.size,fun k ob h1 _ _=>(h.block k (aI h1).1).trans h1⟩
theorem ZH.trans {V V1 V2:World}{g:Nat}{sv sv1:Value}(h:ZH V V1 g sv)(k:ZH V1 V2 g sv1)(ho:sv1.ownBlock=sv.ownBlock∨∀b,sv1.ownBlock=some b→V.heap.size≤b):ZH V V2 g sv :=
 ⟨Nat.le_trans h.size k.size,fun i ob h1 h2 h3=>k.same i ob (h.same i ob h1 h2 h3) h2 (fun e=>by
  rcases ho with e2 | e2
  ·exact h3 (e.trans e2)
  ·have h4:=e2 i e.symm;have h5:=(aI h1).1
   omega)⟩
theorem ja.block {V:World}{lo:Nat}{sv:Value}{l:List Int}(h:ja V lo sv l){k:Nat}(hk:sv.ownBlock=some k):∃c,V.heap[k]?=some (.cells c 3 (0,0)):=by
 rcases h with ⟨h0,⟨rfl,_⟩ | ⟨g',cap,cur,rfl,h2,h3,h4⟩⟩
 ·simp[Value.ownBlock] at hk
 ·simp[Value.ownBlock] at hk;subst hk;exact⟨_,h3⟩
theorem ja.zh {V V':World}{row:Option Nat}{lo:Nat}{sv:Value}{l:List Int}(h:ja V lo sv l)(hg:V.grownBy V' row)(hr:∀r,row=some r→∃o:Obj,V.heap[r]?=some o∧o.isCells=false):ja V' lo sv l:=by
 rcases h with ⟨h0,h1 | ⟨g',cap,cur,rfl,h2,h3,h4⟩⟩
 ·exact⟨h0,.inl h1⟩
 ·refine⟨h0,.inr ⟨g',cap,cur,rfl,h2,(hg.block g' (aI h3).1 (fun e=>?_)).trans h3,h4⟩⟩;obtain⟨o,ho,hc⟩:=hr g' e.symm;rw[h3] at ho;cases ho
  cases hc
theorem j6 {V V':World}{row:Option Nat}{b:Nat}{c:Array Value}{t:TypeId}{z:Nat × Nat}(h:V.heap[b]?=some (.cells c t z))(hg:V.grownBy V' row)(hr:∀r,row=some r→∃o:Obj,V.heap[r]?=some o∧o.isCells=false):V'.heap[b]?=some (.cells c t z):=by
 refine(hg.block b (aI h).1 (fun e=>?_)).trans h;obtain⟨o,ho,hc⟩:=hr b e.symm;rw[h] at ho;cases ho
 cases hc
theorem qc.zh {V V':World}{row:Option Nat}{lo g o:Nat}{sv:Value}{l:List Int}(h:qc V lo g o sv l)(hg:V.grownBy V' row)(hr:∀r,row=some r→∃o:Obj,V.heap[r]?=some o∧o.isCells=false):qc V' lo g o sv l:=by
 obtain⟨us,e,z,hb,hu⟩:=Xc h;have t:=j6 hb hg hr;exact⟨(World.cell?_of_block (w:=V) (a:=(Z g o)) (t.trans hb.symm)).trans h.cell,(World.frozen?_of_block (w:=V) (a:=(Z g o)) (t.trans hb.symm)).trans h.fz,h.row.zh hg hr,h.ne⟩
theorem Kj {V:World}{lo:Nat}{sv:Value}{l:List Int}(h:ja V lo sv l){k:Nat}{c:Array Value}{t:TypeId}{z:Nat × Nat}(hb:V.heap[k]?=some (.cells c t z))(ht:t≠3):some k≠sv.ownBlock:=fun e=>by
 obtain⟨c',hc⟩:=h.block e.symm;rw[hb] at hc;simp at hc;exact ht hc.2.1
theorem aeR {V:World}{lo:Nat}{sv:Value}{l:List Int}(h:ja V lo sv l){k:Nat}{ob:Obj}(hb:V.heap[k]?=some ob)(ht:ob.isCells=false):some k≠sv.ownBlock:=fun e=>by
 obtain⟨c',hc⟩:=h.block e.symm;rw[hb] at hc;cases hc
 cases ht
def BkI (X:jc)(o:List Int)(lo B Bn Bl ln lcap l:Nat)(la:Option Addr)(J:List (Int × Value)→World→Prop)(pre:List (Int × kS))(V:World):Prop :=
 ∃(pre':List (Int × Value)) (z:Int) (sv:Value),pre'.length=pre.length+1∧pre'.map (fun y=>(y.1,ahc y.2))=qZ X o (pre.length+1)∧pre'.getLast? = some (z,sv)∧J pre' V∧qc V lo Bn 0 sv (atS X o (ln-pre.length))∧(∀k,sv.ownBlock=some k→B<k) ∧
  V.cell? (Z B 0)=some (.func (.yield l) #[] #[])∧V.heap[Bl]?=some (.cells #[.slice la ln lcap] 39 (0,0))∧(0<ln→∀b off,la=some (Z b off)→∃c t z,V.heap[b]?=some (.cells c t z))
theorem kX {B:Nat}{V V':World}{row:Option Nat}(hg:V.grownBy V' row)(hB:B≤V.heap.size)(hr:∀r,row=some r→B≤r):Below B V V':=(Below.refl B V).grown hg hB hr
theorem BkI.own {X:jc}{o:List Int}{lo B Bn Bl ln lcap l:Nat}{la:Option Addr}{J:List (Int × Value)→World→Prop}(aJ:∀s X Y,J s X→Below B X Y→J s Y){C:Nat}(hC:B≤C)(hBl:B≤Bl):OwnFrom C (BkI X o lo B Bn Bl ln lcap l la J):=fun pre V V' row h hg hr=>by
 obtain⟨H,z,sv,h1,h2,h3,h4,h5,h6,h7,h8,h9⟩:=h;have G:∀r,row=some r→∃o:Obj,V.heap[r]?=some o∧o.isCells=false:=fun r e=>(hr r e).2
 refine⟨H,z,sv,h1,h2,h3,aJ _ _ _ h4 (kX hg (by have:=(aI h8).1;omega) (fun r e=>by have:=(hr r e).1;omega)),h5.zh hg G,h6,cell_kept h7 hg G,j6 h8 hg G,fun hp b off e=>?_⟩;obtain⟨c,t,z,hb⟩:=h9 hp b off e;exact⟨c,t,z,j6 hb hg G⟩
theorem Kk (pa la sa:Option Addr)(pn pc ln lc sn sc:Nat)(k a t e:Int)(w:World) :
  Calls Tryz.prog 45 #[.agg #[.slice pa pn pc,.slice la ln lc,vi k,vi a,vi t,vi e],.agg #[.slice sa sn sc]] w fun r w'=>r=.returned (.func (.func 68) #[] #[.pointer (some (Z (w.heap.size+1) 0)),.pointer (some (Z w.heap.size 0))])∧w'=(w.alloc (.cells #[.slice pa pn pc,.slice la ln lc,vi k,vi a,vi t,vi e] 43)).alloc (.cells #[.slice sa sn sc] 74):=by
 go_enter Tryz.func45,Tryz.ntmps45
 go_wp2;go_ret;exact⟨rfl,rfl⟩
theorem ZI (n:Nat)(hn:3≤n)(x:Nat)(X:jc)(o:List Int)(ha:Asc o)(ho:JZ o)(hu:Qq X)(Bs Bb:Nat)(sv:Value)(la:Option Addr)(ln lcap:Nat)(hln:X.list.length=ln)(w:World)
  (hset:w.cell? (Z Bs 0)=some sv) (hsv:jV w sv o)
  (c1:w.cell? (Z Bb 1)=some (.slice la ln lcap)) (c2:w.cell? (Z Bb 2)=some (vi X.term.k)) (c3:w.cell? (Z Bb 3)=some (vi X.term.a)) (c4:w.cell? (Z Bb 4)=some (vi X.term.t)) (c5:w.cell? (Z Bb 5)=some (vi X.term.e))
  (hL:jz 0 5 jU w (.slice la ln lcap) X.list) (hxb:Bb≠x) (hxl:0<ln→∀b off,la=some (Z b off)→b≠x) :
  ahr Fence.wide n Tryz.prog 68 #[.pointer (some (Z Bs 0)),.pointer (some (Z Bb 0))] bEnc (bDt X o w.heap.size) (bS X o w.heap.size) x (ln+1) w:=by
 intro l J Jx W hW aS aJ an hY h0;have AJ:Hid (∀s A B,J s A→Below W.heap.size A B→J s B):=aJ;have AX:Hid (OwnFrom W.heap.size Jx):=an
 have HY:Hid (∀pre y W1,J pre W1→bDt X o w.heap.size y W1→pre.length<ln+1→YieldAt Fence.wide (n-1) Tryz.prog l (bEnc y) W1 fun e W'=>
   (e=.returned (.bool true)∧J (pre ++ [y]) W'∧jZ x W.heap.size W1 W')∨(e=.returned (.bool false)∧Jx (pre ++ [y]) W'∧jZ x W.heap.size W1 W')):=hY
 have H0:Hid (J [] W):=h0;have HA:Hid (Asc o):=ha;have HO:Hid (JZ o):=ho;have HU:Hid (Qq X):=hu;have HN:Hid (X.list.length=ln):=hln;have HL:Hid (jz 0 5 jU W (.slice la ln lcap) X.list):=kN hL (kM.jK hW 0);have af:Hid (jV W sv o):=hsv.keep hW;have HW:Hid (Below w.heap.size w W):=hW;have hsz:=hW.size;replace hset:=Bel.keeps hW hset;replace c1:=Bel.keeps hW c1;replace c2:=Bel.keeps hW c2;replace c3:=Bel.keeps hW c3;replace c4:=Bel.keeps hW c4;replace c5:=Bel.keeps hW c5;have aG:Bs<W.heap.size:=World.block_lt_of_cell? W _ hset;have aF:Bb<W.heap.size:=World.block_lt_of_cell? W _ c1;obtain⟨tk,hk⟩:∃z,X.term.k=z:=⟨_,rfl⟩;obtain⟨ta,hta⟩:∃z,X.term.a=z:=⟨_,rfl⟩;obtain⟨tt,htt⟩:∃z,X.term.t=z:=⟨_,rfl⟩;obtain⟨te,hte⟩:∃z,X.term.e=z:=⟨_,rfl⟩;rw[hk] at c2;rw[hta] at c3;rw[htt] at c4;rw[hte] at c5;have O:JZ (kT tk ta):=by rw[←hk,←hta];exact hu.ends
 have ae:Hid (JZ (kT tk ta)):=O;have aq:atS X o ln=qT (o ++ kT tk ta):=by rw[←hln,ahi,endS,hk,hta]
 have aw:Hid (atS X o ln=qT (o ++ kT tk ta)):=aq;clear O aq;clear hk hta htt hte;obtain⟨sa,sc,hsv0,_,_⟩:=af.out;subst hsv0;obtain⟨sn,HSN⟩:∃z,Hid (o.length=z):=⟨_,rfl⟩;rw[HSN.out] at hset;have ay:Hid (jV W (.slice sa sn sc) o):=by have:=af.out;rwa [HSN.out] at this
 have ai:Hid (o.length≤80):=xB ha ho;clear hW aJ an hY h0 ha ho hu hln hL hsv af;show CallsIn Fence.wide n Tryz.prog 68 #[.func (.yield l) #[] #[],.pointer (some (Z Bs 0)),.pointer (some (Z Bb 0))] W _;refine callsIn_of_wp_marks Tryz.func68 rfl trivial ?_ rfl;simp only[Tryz.ntmps68,List.size_toArray,List.length_cons,List.length_nil,Nat.reduceAdd,Nat.reduceSub,Array.replicate_succ,Array.replicate_zero,List.push_toArray,List.append_toArray,List.nil_append,List.cons_append];obtain⟨W0,hW0⟩:∃W0,W.alloc (.cells #[.func (.yield l) #[] #[]] 96)=W0:=⟨_,rfl⟩;have ac:Hid (Below W.heap.size W W0):=by rw[←hW0];exact Bel.alloc _ _
 have aH:W0.heap.size=W.heap.size+1:=by rw[←hW0];simp
 have y0:W0.cell? (Z W.heap.size 0)=some (.func (.yield l) #[] #[]):=by rw[←hW0];simp[go_sem]
 have d0:=Bel.keeps ac.out hset;have aA:1≤n:=by omega
 gi_wp2_with (first
  | (refine⟨trivial,?_⟩;gi_at_call 69;refine(callsIn_wide.2 (copy_any sa sn sc o W0 (ay.out.keep ac.out) HSN.out ai.out)).mono ?_;rintro e W1 ⟨a1,cc1,rfl,hO1,b1⟩;have M:Hid (Below W.heap.size W W1):=Bel.after ac.out b1;have O1:Hid (ja W1 W0.heap.size (.slice a1 sn cc1) o):=hO1;have aK:=b1.size;have y1:=Bel.keeps b1 y0;have e2:=Bel.keeps M.out c2;have e3:=Bel.keeps M.out c3;have e4:=Bel.keeps M.out c4;have e5:=Bel.keeps M.out c5;have aC:Bb<W1.heap.size:=(by omega);clear hO1 b1)
  | (refine⟨trivial,?_⟩;gi_at_call 22;obtain⟨W2,hW2⟩:∃W2,W1.alloc (.cells #[.slice a1 sn cc1] 74)=W2:=⟨_,rfl⟩;have S2:Hid (qc W2 w.heap.size W1.heap.size 0 (.slice a1 sn cc1) o):=(by rw[←hW2];exact ahb (O1.out.low (by omega)) _);have B2:Hid (Below W1.heap.size W1 W2):=(by rw[←hW2];exact Bel.alloc _ _);have aj:W2.heap.size=W1.heap.size+1:=(by rw[←hW2];simp);have y2:=Bel.keeps B2.out y1;rw[hW2];refine(callsIn_wide.2 (Q2 tk ta tt te W2)).mono ?_;rintro e W3 ⟨tv,kb,rfl,hkb,hR3,b3⟩;have S3:Hid (qc W3 w.heap.size W1.heap.size 0 (.slice a1 sn cc1) o):=S2.out.keep b3;have B3:Hid (Below W1.heap.size W1 W3):=B2.out.trans (b3.mono (by omega));have aL:=b3.size;have y3:=Bel.keeps b3 y2;have R3:Hid (yI W3 kb tv (kT tk ta)):=hR3;clear hR3 b3 hW2)
  | (refine⟨trivial,?_⟩;gi_at_call 70;refine(callsIn_wide.2 (ad4 w.heap.size W1.heap.size 0 (.slice a1 sn cc1) tv o (kT tk ta) W3 S3.out HA.out HO.out (by omega) R3.out.at ae.out (fun b hb=>by
    obtain⟨rfl,_,hkl,_⟩:=R3.out;simp[Value.ownBlock] at hb;subst hb
    exact⟨hkl,by omega,fun e=>by have:=(O1.out.lt _ e.symm).2;omega⟩))).mono ?_;rintro e W5 ⟨⟨r,rfl⟩,sv5,l5,hs5,ha5,hr5,hm5,ht5,ho5⟩;have EL:l5=atS X o ln:=(by rw[aw.out];exact norm_eq ha5 hr5 (fun x=>by rw[hm5 x,List.mem_append]));subst EL;have U:Hid (Below W.heap.size W W5):=M.out.trans ((B3.out.mono (by omega)).trans (ht5.below (by omega) (fun k hk=>by have:=(O1.out.lt k hk).1;omega) (by omega)));have y5:W5.cell? (Z W.heap.size 0)=some (.func (.yield l) #[] #[]):=(World.cell?_of_block (a:=(Z W.heap.size 0)) (ht5.block W.heap.size (by omega) (by omega) (fun e=>by have:=(O1.out.lt _ e.symm).1;omega))).trans y3;have f1:=Bel.keeps U.out c1;have S5:Hid (qc W5 w.heap.size W1.heap.size 0 sv5 (atS X o ln)):=hs5;have s5:=hs5.cell;have P5:Hid (∀k,sv5.ownBlock=some k→W.heap.size<k):=(fun k hk=>by rcases ho5 with e | e;(rw[e] at hk;have:=(O1.out.lt k hk).1;omega);(have:=e k hk;omega));have J5:Hid (J [] W5):=AJ.out _ _ _ H0.out U.out;have aD:=ht5.size;obtain⟨fn,tmps,assign,body,hy,hR⟩:=HY.out [] ((ln:Int),sv5) W5 J5.out ⟨ln,(by rw[HN.out];exact Nat.le_refl _),rfl,S5.out.row⟩ (by simp);dsimp only[bEnc] at hy;clear hs5 ha5 hr5 hm5 ht5 ho5 y3 y1 y2 e2 e3 e4 e5)
  | fail)
 refine hR.mono ?_;rintro e W6 (⟨rfl,hJ6,hk6⟩ | ⟨rfl,hJx6,hk6⟩)
 ·have J6:Hid (J ([] ++ [((ln:Int),sv5)]) W6):=hJ6;have K6:Hid (jZ x W.heap.size W5 W6):=hk6;have aM:=hk6.size;have ah:sv5.ownBlock≠some x:=fun e=>by have:=P5.out x e;omega
  have S6:Hid (qc W6 w.heap.size W1.heap.size 0 sv5 (atS X o ln)):=S5.out.keepX hk6 (by omega) ah;have f6:=hk6.cell (p:=(Z Bb 1)) hxb f1;have y6:=hk6.cell (p:=(Z W.heap.size 0)) (by simp;omega) y5;clear hJ6 hk6 hR hy
  gi_wp2_with (refine⟨trivial,?_⟩;gi_at_call 71;refine(callsIn_wide.2 (adX la ln lcap W6)).mono ?_;rintro e W7 ⟨rfl,hW7⟩)
  have ap:W7.heap[W6.heap.size]?=some (.cells #[.slice la ln lcap] 39 (0,0)):=by rw[hW7];exact World.alloc_heap_new W6 _
  have B7:Hid (Below W6.heap.size W6 W7):=by rw[hW7];exact Bel.alloc _ _
  have aN:W7.heap.size=W6.heap.size+1:=by rw[hW7];simp
  have az:W7.cell? (Z W6.heap.size 0)=some (.slice la ln lcap):=by simp[World.cell?,ap]
  have ag:Hid (0<ln→∀b off,la=some (Z b off)→b<W.heap.size∧∃c t z,W7.heap[b]?=some (.cells c t z)):=fun hp b off e=>by
   have hl:0<X.list.length:=by have:=HN.out;omega
   obtain⟨b',off',e',hi⟩:=ZG HL.out (List.getElem?_eq_getElem hl);rw[e] at e';cases e'
   have hc:=hi.1;have ab:=World.block_lt_of_cell? W _ hc;obtain⟨c,t,z,hb⟩:∃c t z,W.heap[b]?=some (.cells c t z):=by
    unfold World.cell? at hc;dsimp only at hc;cases e2:W.heap[b]? with
    | none=>rw[e2] at hc;cases hc
    | some ob=>
     rw[e2] at hc;cases ob with
     | cells c t z=>exact⟨c,t,z,rfl⟩
     | _=>cases hc
   exact⟨ab,c,t,z,(B7.out.block b (by dsimp only at ab;omega)).trans (K6.out.box (hxl hp b off e) ((U.out.block b ab).trans hb))⟩
  have L7:Hid (jz 0 5 jU W7 (.slice la ln lcap) X.list):=by
   refine kN (w:=W6) ?_ (kM.jK B7.out 0);obtain⟨a,cap,e,hm,hc⟩:=kN HL.out (kM.jK U.out 0);refine⟨a,cap,e,hm,fun hp=>?_⟩;obtain⟨b,off,rfl,hlo,hx⟩:=hc hp;simp at e;have hb:b≠x:=hxl (by have:=HN.out;omega) b off e.1;refine⟨b,off,rfl,hlo,fun i y hi=>?_⟩;obtain⟨q0,q1,q2,q3,q4⟩:=hx i y hi;exact⟨K6.out.cell hb q0,K6.out.cell hb q1,K6.out.cell hb q2,K6.out.cell hb q3,K6.out.cell hb q4⟩
  have I7:BkI X o w.heap.size W.heap.size W1.heap.size W6.heap.size ln lcap l la J [] W7:=by
   refine⟨[((ln:Int),sv5)],(ln:Int),sv5,rfl,?_,rfl,AJ.out _ _ _ J6.out (B7.out.mono (by omega)),S6.out.keep B7.out,P5.out,Bel.keeps B7.out y6,ap,fun hp b off e=>(ag.out hp b off e).2⟩;have:=S6.out.row.ahc;simp[qZ,HN.out,this]
  rw[←hW7];clear hW7;have I:OwnFrom W7.heap.size (BkI X o w.heap.size W.heap.size W1.heap.size W6.heap.size ln lcap l la J):=BkI.own AJ.out (by omega) (by omega);refine Xf (α:=Int × kS) rfl aA (gf:=92) (lb := #[.pointer (some (Z W6.heap.size 0))]) rfl trivial (enters_of Tryz.func92 (by kernel_rfl) rfl)
   (back_ord (n-1) (by omega) W6.heap.size X.list la ln lcap (fun k=>k=W6.heap.size∨(0<ln∧∃off,la=some (Z k off))) (.inl rfl) (fun hp b off e=>.inr ⟨hp,off,e⟩) W7 az L7.out HN.out) aha
   (fun V l' ob aT hl hv hc _ k u hp h1=>(World.putObj_heap_other (by
    rcases hp with rfl|⟨hp,off,e⟩
    ·omega
    ·have:=(ag.out hp k off e).1
     omega)).trans h1) (Below.refl _ _) (fun _=>rfl)
   (BkI X o w.heap.size W.heap.size W1.heap.size W6.heap.size ln lcap l la J)
   (fun c pre V=>c=.ret∧∃p,Jx p V)
   (fun pre y a' V=>bkOd X.list pre y∧BkI X o w.heap.size W.heap.size W1.heap.size W6.heap.size ln lcap l la J pre V∧∃Bx,W7.heap.size≤Bx∧V.heap[Bx]?=some (.cells #[vi y.2.op,vi y.2.d,vi y.2.a,vi y.2.b,vi y.2.n] 47 (0,0))∧a' = { tmps := #[.func (.yield l) #[] #[],.pointer (some (Z Bs 0)),.pointer (some (Z Bb 0)),.pointer (some (Z W.heap.size 0)),.pointer (some (Z W1.heap.size 0)),vi y.1,.pointer (some (Z Bx 0)),.agg #[.slice sa sn sc],.agg #[.slice a1 sn cc1],.pointer (some (Z Bb 2)),.agg #[vi tk,vi ta,vi tt,vi te],tv,r,.func (.yield l) #[] #[],.pointer (some (Z Bb 1)),.slice la ln lcap,vi ln,.agg #[sv5],.bool true,.bool false,.pointer (some (Z Bb 1)),.slice la ln lcap,.func (.func 92) #[] #[.pointer (some (Z W6.heap.size 0))],vi y.1,.agg #[vi y.2.op,vi y.2.d,vi y.2.a,vi y.2.b,vi y.2.n],undef,undef,undef,undef,undef,undef,undef,undef,undef,undef,undef],defers := [] })
   I
   (fun c pre V V' row h hg hr=>⟨h.1,h.2.elim fun p hp=>⟨p,AX.out p V V' row hp hg (fun r' e=>⟨by have:=(hr r' e).1;omega,(hr r' e).2⟩)⟩⟩)
   (fun pre y a' _ V V' row h hg hr=>⟨h.1,I pre V V' row h.2.1 hg hr,h.2.2.elim fun Bx hB=>⟨Bx,hB.1,j6 hB.2.1 hg (fun r' e=>(hr r' e).2),hB.2.2⟩⟩)
   I7 ?assign ?body ?done ?stop
  case assign=>
   rintro l2 pre ⟨yi,x0,x1,x2,x3,x4⟩ V K hi hod hK;dsimp only[ag9]
   gi_wp2
   refine hK _ _ ⟨hod,I.alloc _ hi,V.heap.size,?_,World.alloc_heap_new V _,rfl⟩ ((KeepsOthers.alloc _ _).from _) ?_
   ·obtain⟨_,_,_,_,_,_,_,_,_,_,h8,_⟩:=hi;have:=(aI h8).1;omega
   ·intro k u hp h1;exact(Below.heap_alloc V _ k (aI h1).1).trans h1
  case body=>
   rintro l2 pre ⟨yi,x0,x1,x2,x3,x4⟩ a' V ⟨⟨j,hj,hyi,hX⟩,⟨G,z,sv,p1,p2,p3,hJ,hS,hP,hy0,hbl,hlb⟩,Bx,hBx,hbox,rfl⟩;dsimp only at hyi hX hbox;subst hyi;have ar:ln-pre.length=j+1:=by have:=HN.out;omega
   have aa:Hid (pre.length+(j+1)=ln):=by rw[←HN.out];exact hj
   rw[ar] at hS;have HX:Hid (X.list[j]?=some ⟨x0,x1,x2,x3,x4⟩):=hX;have P1:Hid (G.length=pre.length+1):=p1;have P2:Hid (G.map (fun y=>(y.1,ahc y.2))=qZ X o (pre.length+1)):=p2;have HJ:Hid (J G V):=hJ;have HS:Hid (qc V w.heap.size W1.heap.size 0 sv (atS X o (j+1))):=hS;have HP:Hid (∀k,sv.ownBlock=some k→W.heap.size<k):=hP;have ad:Hid (V.heap[W6.heap.size]?=some (.cells #[.slice la ln lcap] 39 (0,0))):=hbl;have ax:Hid (0<ln→∀b off,la=some (Z b off)→∃c t z,V.heap[b]?=some (.cells c t z)):=hlb;have ak:Hid (V.heap[Bx]?=some (.cells #[vi x0,vi x1,vi x2,vi x3,vi x4] 47 (0,0))):=hbox;have aE:W6.heap.size<V.heap.size:=(aI hbl).1;have b0:V.cell? (Z Bx 0)=some (vi x0):=by simp[World.cell?,hbox]
   have b1:V.cell? (Z Bx 1)=some (vi x1):=by simp[World.cell?,hbox]
   have b2:V.cell? (Z Bx 2)=some (vi x2):=by simp[World.cell?,hbox]
   have b3:V.cell? (Z Bx 3)=some (vi x3):=by simp[World.cell?,hbox]
   have b4:V.cell? (Z Bx 4)=some (vi x4):=by simp[World.cell?,hbox]
   obtain⟨dv,HD⟩:∃d,Hid (jX x0 x1=d):=⟨_,rfl⟩;clear p1 p2 p3 hJ hS hP hbl hlb hbox hX hj ar;have aB:1≤n-1-1:=by omega
   gi_wp2_with (first
    | (refine⟨trivial,?_⟩;gi_at_call 24;refine(CallsIn.inRound l2 (callsIn_wide.2 (adR x0 x1 x2 x3 x4 V))).mono ?_;rintro e V1 ⟨rfl,q1⟩;rw[HD.out];have S1:Hid (qc V1 w.heap.size W1.heap.size 0 sv (atS X o (j+1))):=HS.out.keep q1;have Q1:Hid (Below V.heap.size V V1):=q1;have aO:=q1.size;clear q1)
    | (refine⟨trivial,?_⟩;gi_at_call 72;refine(CallsIn.inRound l2 (callsIn_wide.2 (drop_any w.heap.size W1.heap.size 0 sv (atS X o (j+1)) dv V1 S1.out (ZK X o (j+1)).1 (ZK X o (j+1)).2))).mono ?_;rintro e V2 ⟨⟨r2,rfl⟩,sv2,l2',aj,ha2,hr2,hm2,ht2,ho2⟩;have K2:Hid (ZH V V2 W1.heap.size sv):=(ZH.below Q1.out).trans ht2.stepK (.inl rfl);have S2:Hid (qc V2 w.heap.size W1.heap.size 0 sv2 l2'):=aj;have A2:Hid (Asc l2'):=ha2;have R2:Hid (JZ l2'):=hr2;have M2:Hid (∀x,x∈l2'↔x∈atS X o (j+1)∧x≠dv):=hm2;have O2:Hid (sv2.ownBlock=sv.ownBlock∨∀b,sv2.ownBlock=some b→V.heap.size≤b):=(by rcases ho2 with e | e;(exact .inl e);(exact .inr (fun b hb=>by have:=e b hb;omega)));have B2:Hid (Below W.heap.size V V2):=(Q1.out.mono (by omega)).trans (ht2.below (by omega) (fun k hk=>by have:=HP.out k hk;omega) (by omega));have aP:=ht2.size;have L:=K2.out.same Bx _ ak.out (by omega) (Kj HS.out.row ak.out (by decide));have d0:V2.cell? (Z Bx 0)=some (vi x0):=(by simp[World.cell?,L]);have d1:V2.cell? (Z Bx 1)=some (vi x1):=(by simp[World.cell?,L]);have d2:V2.cell? (Z Bx 2)=some (vi x2):=(by simp[World.cell?,L]);have d3:V2.cell? (Z Bx 3)=some (vi x3):=(by simp[World.cell?,L]);have d4:V2.cell? (Z Bx 4)=some (vi x4):=(by simp[World.cell?,L]);clear aj ha2 hr2 hm2 ht2 ho2 L b0 b1 b2 b3 b4)
    | (refine⟨trivial,?_⟩;gi_at_call 23;refine(CallsIn.inRound l2 (callsIn_wide.2 (ac6 x0 x1 x2 x3 x4 V2))).mono ?_;rintro e V3 ⟨uv,kb2,rfl,hkb2,hR3,q3⟩;have S3:Hid (qc V3 w.heap.size W1.heap.size 0 sv2 l2'):=S2.out.keep q3;have Q3:Hid (Below V2.heap.size V2 V3):=q3;have aQ:=q3.size;have am:Hid (yI V3 kb2 uv (kK x0 x2 x3)):=hR3;clear q3 hR3 d0 d1 d2 d3 d4)
    | (refine⟨trivial,?_⟩;gi_at_call 70;refine(CallsIn.inRound l2 (callsIn_wide.2 (ad4 w.heap.size W1.heap.size 0 sv2 uv l2' (kK x0 x2 x3) V3 S3.out A2.out R2.out (by omega) am.out.at (HU.out.uses ⟨x0,x1,x2,x3,x4⟩ (List.mem_of_getElem? HX.out)) (fun b hb=>by
      obtain⟨rfl,_,hkl,_⟩:=am.out;simp[Value.ownBlock] at hb;subst hb
      exact⟨hkl,by omega,fun e=>by have:=(S2.out.row.lt _ e.symm).2;omega⟩)))).mono ?_;rintro e V4 ⟨⟨r4,rfl⟩,sv4,l4,hs4,ha4,hr4,hm4,ht4,ho4⟩;have EL:l4=atS X o j:=(by rw[abY HX.out,Q8];refine norm_eq ha4 hr4 (fun x=>?_);rw[hm4 x,M2.out x,List.mem_append,List.mem_filter];dsimp only;rw[HD.out];simp);subst EL;have K4:Hid (ZH V V4 W1.heap.size sv):=K2.out.trans ((ZH.below Q3.out).trans ht4.stepK (.inl rfl)) O2.out;have S4:Hid (qc V4 w.heap.size W1.heap.size 0 sv4 (atS X o j)):=hs4;have s4:=hs4.cell;have P4:Hid (∀k,sv4.ownBlock=some k→W.heap.size<k):=(fun k hk=>by rcases ho4 with e | e;(rw[e] at hk;rcases O2.out with e2 | e2;(rw[e2] at hk;exact HP.out k hk);(have:=e2 k hk;omega));(have:=e k hk;omega));have B4:Hid (Below W.heap.size V V4):=B2.out.trans ((Q3.out.mono (by omega)).trans (ht4.below (by omega) (fun k hk=>by rcases O2.out with e2 | e2;(rw[e2] at hk;have:=HP.out k hk;omega);(have:=e2 k hk;omega)) (by omega)));have aR:=ht4.size;have y4:V4.cell? (Z W.heap.size 0)=some (.func (.yield l) #[] #[]):=(by
      obtain⟨ob,hob⟩:∃ob,V.heap[W.heap.size]?=some ob:=⟨_,Array.getElem?_eq_getElem (by omega)⟩
      exact(World.cell?_of_block (w:=V) (a:=(Z W.heap.size 0)) ((K4.out.same _ _ hob (by omega) (fun e=>by have:=HP.out _ e.symm;omega)).trans hob.symm)).trans hy0);have J4:Hid (J G V4):=AJ.out _ _ _ HJ.out B4.out;obtain⟨fn,tmps,assign,body,hy,hR⟩:=ade (F:=Fence.wide) rfl (n-1-1-1) (HY.out G ((j:Int),sv4) V4 J4.out ⟨j,(by have:=aa.out;have:=HN.out;omega),rfl,S4.out.row⟩ (by have:=aa.out;have:=P1.out;omega));dsimp only[bEnc] at hy;clear hs4 ha4 hr4 hm4 ht4 ho4)
    | fail)
   refine hR.mono ?_;have kf:∀V5,jZ x W.heap.size V4 V5→KeepsFrom W7.heap.size V V5:=fun V5 H=>⟨Nat.le_trans K4.out.size H.size,fun k ob hk h0 hc=>H.same k ob (K4.out.same k ob h0 (by omega) (aeR HS.out.row h0 hc)) (by omega) (.inl (by omega))⟩
   rintro e V5 (⟨rfl,hJ5,H⟩ | ⟨rfl,hJx5,H⟩)
   ·gi_wp2
    have ah:sv4.ownBlock≠some x:=fun e=>by have:=P4.out x e;omega
    have ao:=H.box (by omega) (K4.out.same _ _ ad.out (by omega) (Kj HS.out.row ad.out (by decide)));have au:0<ln→∀b off,la=some (Z b off)→∃c t z,V5.heap[b]?=some (.cells c t z)∧V.heap[b]?=some (.cells c t z):=fun hp b off e=>by
     obtain⟨c,t,z,hb⟩:=ax.out hp b off e;have ab:=(ag.out hp b off e).1;exact⟨c,t,z,H.box (hxl hp b off e) (K4.out.same _ _ hb (by omega) (fun e2=>by have:=HP.out _ e2.symm;omega)),hb⟩
    refine⟨kf _ H,?_,G ++ [((j:Int),sv4)],(j:Int),sv4,by simp[P1.out],?_,by simp,hJ5,?_,P4.out,H.cell (p:=(Z W.heap.size 0)) (by simp;omega) y4,ao,fun hp b off e=>(au hp b off e).elim fun c h=>h.elim fun t h=>h.elim fun z h=>⟨c,t,z,h.1⟩⟩
    ·intro k u hp h1;rcases hp with rfl|⟨hp,off,e⟩
     ·rw[ad.out] at h1;cases h1
      exact ao
     ·obtain⟨c,t,z,h5,h0⟩:=au hp k off e;rw[h0] at h1;cases h1
      exact h5
    ·have hl:=S4.out.row.ahc;have e1:X.list.length-(pre.length+1)=j:=by have:=aa.out;have:=HN.out;omega
     rw[List.map_append,P2.out,List.length_append,List.length_singleton,Q9 X o (pre.length+1),e1];simp[hl]
    ·rw[List.length_append,List.length_singleton,show ln-(pre.length+1)=j by have:=aa.out;omega];exact S4.out.keepX H (by omega) ah
   ·gi_wp2
    exact⟨kf _ H,rfl,_,hJx5⟩
  case done=>
   rintro D ys V hD hS ⟨G,z,sv,p1,p2,p3,hJ,hS2,hP,hy0,hbl,hlb⟩ hK
   gi_wp2
   refine⟨by simp,.inl ⟨_,_,rfl,run_takeDeferred hK,?_⟩⟩;refine⟨_,results_none rfl _ _ _,⟨_,rfl⟩,.inl ⟨G,⟨?_,(z,sv),p3,?_⟩,?_⟩⟩
   ·rw[p2,hS,HN.out]
   ·rw[hS,Nat.sub_self] at hS2;exact hS2.row.zh (grownBy_putObj' _ D (.deferred none)) (fun r' e=>by cases e;exact⟨_,hK,rfl⟩)
   ·exact AJ.out _ _ _ hJ (kX (grownBy_putObj' _ D (.deferred none)) (by have:=(aI hbl).1;omega) (fun r' e=>by cases e;omega))
  case stop=>
   rintro D c pre V hD ⟨rfl,p,hp⟩ hK
   gi_wp2
   refine⟨by simp,.inl ⟨_,_,rfl,run_takeDeferred hK,?_⟩⟩;exact⟨_,results_none rfl _ _ _,⟨_,rfl⟩,.inr ⟨p,AX.out.putObj _ hp (by omega) hK rfl⟩⟩
 ·gi_wp2
  refine⟨_,results_none rfl _ _ _,?_⟩;exact⟨⟨_,rfl⟩,.inr ⟨_,hJx6⟩⟩
end Go.Proofs.YtkbhbekfniadhaaGreat
