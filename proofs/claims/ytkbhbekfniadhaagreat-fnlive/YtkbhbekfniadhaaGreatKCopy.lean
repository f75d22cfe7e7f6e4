/- slices.Clone at the lists of a program: the same cells in new memory. Lists of places and of arms, cloned. A list of places or of arms, appended to an empty one: it reads alike, in new memory. -/
import Derived.Test.YtkbhbekfniadhaaGreatTk0
import Derived.Test.YtkbhbekfniadhaaGreatKTo
import Derived.Test.YtkbhbekfniadhaaGreatKIns
import Derived.Maps.AppendAt
import Derived.ArgAppend
set_option maxRecDepth 100000
namespace Go.Proofs.YtkbhbekfniadhaaGreat
open Go.ChangeShapes Go.WideShapes Go.ChangeAt Go.RowKit
set_option linter.unusedVariables false
def agx (w:World)(k n:Nat)(ad:Addr)(e:Ending)(w':World):Prop := ∃g cap,e=.returned (sq g 0 n cap)∧w.heap.size≤g∧g<w'.heap.size∧(∀j,j<n*k→w'.cell? (Z g j)=w.cell? (ad.add j))∧(∀j,w'.frozen? (Z g j)=false)∧Below w.heap.size w w'
def Xv (w:World)(ad:Addr)(m:Nat):Prop := ∀j,j<m→∃u,w.cell? (ad.add j)=some u∧u.oneCell'=true
def QB (w:World)(ad:Addr)(m:Nat):List Value:=(List.range m).map (fun j=>(w.cell? (ad.add j)).getD undef)
theorem Xw (w:World)(ad:Addr)(m:Nat):(QB w ad m).length=m:=by simp[QB]
theorem acB {w:World}{ad:Addr}{m:Nat}(h:Xv w ad m){j:Nat}{u:Value}(hu:(QB w ad m)[j]?=some u):w.cell? (ad.add j)=some u:=by
 have hj:j<m:=by have:=(List.getElem?_eq_some_iff.1 hu).1;rw[Xw] at this;exact this
 obtain⟨v,hv,_⟩:=h j hj;simp only[QB,List.getElem?_map,List.getElem?_range hj,Option.map_some,Option.some.injEq] at hu;rw[hv] at hu ⊢;simpa using hu
theorem agy {w w':World}{E:TypeId}{k n:Nat}{v:Value}{ad:Addr}(hC:Xv w ad (n*k))(h:w'.ownsRow w.heap.size E k v (0+n) ([] ++ QB w ad (n*k)))(hnn:v≠.slice none 0 0)(hb:Below w.heap.size w w'):agx w k n ad (.returned v) w':=by
 rw[Nat.zero_add,List.nil_append] at h;rcases h.2 with ⟨h0,_⟩ | ⟨g,cap,cur,rfl,hlo,hg,h1,h2,h3,h4⟩
 ·exact absurd h0 hnn
 ·refine⟨g,cap,rfl,hlo,(aI hg).1,fun j hj=>?_,fun j=>by simp[World.frozen?,hg],hb⟩;obtain⟨u,hu,_⟩:=hC j hj;have e1:(QB w ad (n*k))[j]?=some u:=by
   simp only[QB,List.getElem?_map,List.getElem?_range hj,Option.map_some,hu,Option.getD_some]
  rw[←h4,List.getElem?_take_of_lt hj] at e1;rw[hu];simp only[World.cell?,hg];simpa using e1
theorem agz : (Tryz.prog.info? 143).map (fun i=>(i.zero,i.size,i.bytes))=some (some (.agg #[vi 0,vi 0]),2,16):=by kernel_rfl
theorem acC : (Tryz.prog.info? 47).map (fun i=>(i.zero,i.size,i.bytes))=some (some (.agg #[vi 0,vi 0,vi 0,vi 0,vi 0]),5,40):=by kernel_rfl
theorem agA : (Tryz.prog.info? 107).map (fun i=>(i.zero,i.size,i.bytes))=some (some (.agg #[vi 0,.slice none 0 0]),2,32):=by kernel_rfl
theorem Y7 : (Tryz.prog.info? 43).map (fun i=>(i.zero,i.size,i.bytes))=some (some (.agg #[.slice none 0 0,.slice none 0 0,vi 0,vi 0,vi 0,vi 0]),6,80):=by kernel_rfl
theorem Jl (b off j:Nat):((Z b off):Addr).add j=(Z b (off+j)):=by
 cases j <;> simp[Addr.add]
def yQ {α:Type}(k:Nat)(E:World→Nat→Nat→α→Prop)(lo:Nat)(w:World)(a:Option Addr)(l:List α):Prop:=0<l.length→∃g,a=some (Z g 0)∧lo≤g∧g<w.heap.size∧(∀i x,l[i]?=some x→E w g (i*k) x)∧∀j,w.frozen? (Z g j)=false
theorem agB {w:World}{ad:Addr}{l:List kS}(hc:0<l.length→∃b off,some ad=some (Z b off)∧0≤b∧∀i x,l[i]?=some x→jU w b (off+i*5) x):Xv w ad (l.length*5):=by
 intro j hj;obtain⟨b,off,he,_,hE⟩:=hc (by omega);cases he
 obtain⟨x,hx⟩:∃x,l[j / 5]?=some x:=⟨_,List.getElem?_eq_getElem (by omega)⟩;obtain⟨q0,q1,q2,q3,q4⟩:=hE _ x hx;rw[Jl];have hd:j / 5*5+j % 5=j:=by omega
 have h5:j % 5=0∨j % 5=1∨j % 5=2∨j % 5=3∨j % 5=4:=by omega
 rcases h5 with h | h | h | h | h
 ·exact⟨_,by rw[show off+j=off+j / 5*5 by omega];exact q0,rfl⟩
 ·exact⟨_,by rw[show off+j=off+j / 5*5+1 by omega];exact q1,rfl⟩
 ·exact⟨_,by rw[show off+j=off+j / 5*5+2 by omega];exact q2,rfl⟩
 ·exact⟨_,by rw[show off+j=off+j / 5*5+3 by omega];exact q3,rfl⟩
 ·exact⟨_,by rw[show off+j=off+j / 5*5+4 by omega];exact q4,rfl⟩
theorem agC {w:World}{ad:Addr}{l:List jy}(hc:0<l.length→∃b off,some ad=some (Z b off)∧0≤b∧∀i x,l[i]?=some x→qq w b (off+i*2) x):Xv w ad (l.length*2):=by
 intro j hj;obtain⟨b,off,he,_,hE⟩:=hc (by omega);cases he
 obtain⟨x,hx⟩:∃x,l[j / 2]?=some x:=⟨_,List.getElem?_eq_getElem (by omega)⟩;obtain⟨q0,q1⟩:=hE _ x hx;rw[Jl];have h2:j % 2=0∨j % 2=1:=by omega
 rcases h2 with h | h
 ·exact⟨_,by rw[show off+j=off+j / 2*2 by omega];exact q0,rfl⟩
 ·exact⟨_,by rw[show off+j=off+j / 2*2+1 by omega];exact q1,rfl⟩
def Jm (w:World)(la:Option Addr)(n cap:Nat):Prop:=(n=0∧cap=0)∨(0<n∧∃g cur,la=some (Z g 0)∧w.heap[g]?=some (.cells cur 47 (0,0))∧n≤cap∧cap≤maxLen∧cur.size=cap*5)
theorem Jm.turn {w w':World}{la:Option Addr}{n cap:Nat}(h:Jm w la n cap)(hs:0<n→∃g,la=some (Z g 0)∧w'.heap[g]?=w.heap[g]?):Jm w' la n cap:=by
 rcases h with h | ⟨h0,g,cur,e,hg,h1⟩
 ·exact .inl h
 ·obtain⟨g',e',hs'⟩:=hs h0;have:g'=g:=by rw[e] at e';simp at e';exact e'.symm
  subst this;exact .inr ⟨h0,g',cur,e,hs'.trans hg,h1⟩
theorem acD {w:World}{lo m n cap:Nat}{la:Option Addr}{xs:List Value}(h:w.ownsRow lo 47 5 (.slice la n cap) m xs)(h0:0<n):Jm w la n cap:=by
 rcases h.2 with ⟨e,_⟩ | ⟨g,c,cur,e,_,hg,h1,h2,h3,_⟩
 ·cases e
  omega
 ·simp at e;obtain⟨rfl,rfl,rfl⟩:=e;exact .inr ⟨h0,g,cur,rfl,hg,h1,h2,h3⟩
theorem abF (g:Nat)(v:Value)(l:List kS)(w:World)(h:jz 0 5 jU w v l)(hn:l.length≤1048576)(ty:TypeId) :
  ∃v' w',(Builtin.append_ #[39,39] ty #[sq g 0 0 0,v]).run Tryz.prog w=.ok v' w'∧(∃a' cap',v'=.slice a' l.length cap'∧yQ 5 jU w.heap.size w' a' l∧Jm w' a' l.length cap')∧Below w.heap.size w w':=by
 obtain⟨a,cap,rfl,hm,hc⟩:=h;obtain⟨i0,hi,hz0,hz1,hz2⟩:=info_parts acC;by_cases h0:l.length=0
 ·refine⟨sq g 0 0 0,w,?_,⟨some (Z g 0),0,by rw[h0],fun hp=>absurd hp (by omega),.inl ⟨h0,rfl⟩⟩,Below.refl _ _⟩;rw[h0];cases a with
  | none=>simp[Builtin.append_,run_underlying Tryz.underlying39,sizeOf,typeInfo,hi,Builtin.lenOf,Builtin.firstCells,go_sem]
  | some ad=>simp[Builtin.append_,run_underlying Tryz.underlying39,sizeOf,typeInfo,hi,Builtin.lenOf,Builtin.firstCells,go_sem]
 ·have H:2000000≤maxLen:=by decide
  obtain⟨b,off,rfl,_,hE⟩:=hc (by omega);have hC:Xv w (Z b off) (l.length*5):=agB hc;obtain⟨v',w',hrun,hown,hgr⟩:=run_append_arg_grows (P:=Tryz.prog) w 39 ty 47 i0 (.agg #[vi 0,vi 0,vi 0,vi 0,vi 0]) 5 40 Tryz.underlying39 hi hz0 hz1 hz2 rfl (by decide) (Z g 0) 0 0 [] rfl (fun j u h=>by simp at h) (Z b off) l.length cap (QB w (Z b off) (l.length*5)) (Xw _ _ _) (fun j u hu=>acB hC hu) (by omega) (by omega) (by omega);have B:v'≠.slice none 0 0:=by
   rcases hown.2 with ⟨_,h2⟩ | ⟨_,_,_,rfl,_⟩
   ·omega
   ·simp
  have hb:Below w.heap.size w w':=(Below.refl w.heap.size w).grown hgr (Nat.le_refl _) (fun j ej=>by cases ej);obtain⟨g2,cap',e,hlo,hlt,hcp,hfz,_⟩:=agy hC hown B hb;cases e
  have t:=acD hown (by omega);refine⟨_,w',hrun,⟨_,cap',rfl,fun hp=>⟨g2,rfl,hlo,hlt,fun i x hx=>?_,hfz⟩,t⟩,hb⟩;have G:i<l.length:=(List.getElem?_eq_some_iff.1 hx).1;obtain⟨q0,q1,q2,q3,q4⟩:=hE i x hx;have hq:∀r,r<5→w'.cell? (Z g2 (i*5+r))=w.cell? (Z b (off+i*5+r)):=fun r hr=>by
   rw[hcp _ (by omega),Jl,Nat.add_assoc]
  exact⟨(hq 0 (by omega)).trans q0,(hq 1 (by omega)).trans q1,(hq 2 (by omega)).trans q2,(hq 3 (by omega)).trans q3,(hq 4 (by omega)).trans q4⟩
theorem add_arm (g:Nat)(v:Value)(l:List jy)(w:World)(h:jz 0 2 qq w v l)(hn:l.length≤1048576)(ty:TypeId) :
  ∃v' w',(Builtin.append_ #[105,105] ty #[sq g 0 0 0,v]).run Tryz.prog w=.ok v' w'∧(∃a' cap',v'=.slice a' l.length cap'∧yQ 2 qq w.heap.size w' a' l)∧Below w.heap.size w w':=by
 obtain⟨a,cap,rfl,hm,hc⟩:=h;obtain⟨i0,hi,hz0,hz1,hz2⟩:=info_parts agz;by_cases h0:l.length=0
 ·refine⟨sq g 0 0 0,w,?_,⟨some (Z g 0),0,by rw[h0],fun hp=>absurd hp (by omega)⟩,Below.refl _ _⟩;rw[h0];cases a with
  | none=>simp[Builtin.append_,run_underlying Tryz.underlying105,sizeOf,typeInfo,hi,Builtin.lenOf,Builtin.firstCells,go_sem]
  | some ad=>simp[Builtin.append_,run_underlying Tryz.underlying105,sizeOf,typeInfo,hi,Builtin.lenOf,Builtin.firstCells,go_sem]
 ·have G:2000000≤maxLen:=by decide
  obtain⟨b,off,rfl,_,hE⟩:=hc (by omega);have hC:Xv w (Z b off) (l.length*2):=agC hc;obtain⟨v',w',hrun,hown,hgr⟩:=run_append_arg_grows (P:=Tryz.prog) w 105 ty 143 i0 (.agg #[vi 0,vi 0]) 2 16 Tryz.underlying105 hi hz0 hz1 hz2 rfl (by decide) (Z g 0) 0 0 [] rfl (fun j u h=>by simp at h) (Z b off) l.length cap (QB w (Z b off) (l.length*2)) (Xw _ _ _) (fun j u hu=>acB hC hu) (by omega) (by omega) (by omega);have t:v'≠.slice none 0 0:=by
   rcases hown.2 with ⟨_,h2⟩ | ⟨_,_,_,rfl,_⟩
   ·omega
   ·simp
  have hb:Below w.heap.size w w':=(Below.refl w.heap.size w).grown hgr (Nat.le_refl _) (fun j ej=>by cases ej);obtain⟨g2,cap',e,hlo,hlt,hcp,hfz,_⟩:=agy hC hown t hb;cases e
  refine⟨_,w',hrun,⟨_,cap',rfl,fun hp=>⟨g2,rfl,hlo,hlt,fun i x hx=>?_,hfz⟩⟩,hb⟩;have B:i<l.length:=(List.getElem?_eq_some_iff.1 hx).1;obtain⟨q0,q1⟩:=hE i x hx;have hq:∀r,r<2→w'.cell? (Z g2 (i*2+r))=w.cell? (Z b (off+i*2+r)):=fun r hr=>by
   rw[hcp _ (by omega),Jl,Nat.add_assoc]
  exact⟨(hq 0 (by omega)).trans q0,(hq 1 (by omega)).trans q1⟩
end Go.Proofs.YtkbhbekfniadhaaGreat
