/- A program is copied (fnCopy): it reads alike, in new memory, each list in a block of memory of its own. A row of the call's own whose parts name lists that lie elsewhere: it grows, and it reads as a list. One operation of a region that draws, where it alone may come. -/
import Derived.Test.YtkbhbekfniadhaaGreatTk0
import Derived.Test.YtkbhbekfniadhaaGreatKCopy
import Derived.Test.YtkbhbekfniadhaaGreatKSpot
import Derived.Test.YtkbhbekfniadhaaGreatKSh8
import Derived.Test.YtkbhbekfniadhaaGreatKTo
import Derived.Laws.OwnMore
import Derived.OrdersHeld
import Derived.Shelf.Abstract
import Derived.Shelf.RegionOpen
namespace Go.Proofs.YtkbhbekfniadhaaGreat
open Go.ChangeShapes Go.WideShapes Go.ChangeAt Go.RowKit Go.Shelf
set_option linter.unusedVariables false
theorem aeN {w:World}{X:Nat}{a b:Value}{T:TypeId}{z:Nat × Nat}(h:w.heap[X]?=some (.cells #[a,b] T z))(u:Value):(w.setCell (Z X 0) u).heap[X]?=some (.cells #[u,b] T z):=by
 simp[World.setCell,Array.getElem?_modify,h]
def ag4 (own:k6)(lo:Nat)(w:World):Prop := ∀g,(own g).1≤3→lo≤g∧g<w.heap.size∧∀j,w.frozen? (Z g j)=false
theorem kE.own {α:Type}{own own':k6}{c:Nat × Nat × Nat}{k:Nat}{E E':Nat→World→Nat→Nat→α→Prop}{w w':World}{v:Value}{l:List α}(h:kE (fun g=>own g=c) k E w v l)(ho:∀g,own g=c→own' g=c)(hE:∀i b o x,own b=c→E i w b o x→E' i w' b o x):kE (fun g=>own' g=c) k E' w' v l:=h.imp ho (fun i b o x hb _ hx=>hE i b o x hb hx)
theorem Jy {P:Program}{Q:Exit→Act→World→Prop}{o:Oper}{a:Act}{w w':World}{K:Act→World→Prop}(h:(execOp a.eval o).run P w=.ok .skip w')(hk:K (a.put o.dst undef) w'):o.wp P a w K Q:=by
 unfold Oper.wp;rw[h];exact hk
theorem abP {lo:Nat}{w:World}{F:FnD}(hn:F.blocks.length=0)(a:Option Addr)(c:Nat):FnO lo (fun _=>(9,0,0)) w (.slice a 0 c) F.blocks:=by
 rw[List.eq_nil_of_length_eq_zero hn];exact⟨kE.nil a c,fun g h=>absurd h (by simp),fun g h=>absurd h (by simp),fun g h=>absurd h (by simp)⟩
open Classical in
noncomputable def newO (k:Nat)(la:Option Addr)(nl:Nat)(pb:Option Nat)(na:k6):k6:=fun g=>if la=some (Z g 0)∧0<nl then(2,k,0) else if pb=some g then(1,k,0) else na g
open Classical in
noncomputable def armO (na:k6)(sz:Nat)(aa:Option Addr)(an:Nat)(c:Nat × Nat × Nat):k6:=fun g=>if g<sz then na g else if aa=some (Z g 0)∧0<an then c else(9,0,0)
theorem yQ.listO {α:Type}{k:Nat}{E:World→Nat→Nat→α→Prop}{lo:Nat}{w:World}{a:Option Addr}{l:List α}(h:yQ k E lo w a l)(hm:l.length≤1048576)(cap:Nat){S:Nat→Prop}(hS:∀g,a=some (Z g 0)→0<l.length→S g):kE S k (fun _=>E) w (.slice a l.length cap) l :=
 ⟨a,cap,rfl,by omega,fun hp=>by
  obtain⟨g,ha,_,_,h3,_⟩:=h hp
  exact⟨g,0,ha,hS g ha hp,fun i x hx=>by rw[Nat.zero_add];exact h3 i x hx⟩⟩
theorem zz {w w5:World}{R:Nat}{ba:Option Addr}{n bcap:Nat}{vals:Int}{F:FnD}{own:k6}(hR:w.heap.size≤R)(x:w5.heap[R]?=some (.cells #[.slice none 0 0,vi 0] 26 (0,0)))(hF:FnO (R+1) own w5 (.slice ba n bcap) F.blocks)(hB:Below w.heap.size w w5) :
  ((w5.setCell (Z R 0) (.slice ba n bcap)).setCell (Z R 1) (vi vals)).cell? (Z R 0)=some (.slice ba n bcap)∧((w5.setCell (Z R 0) (.slice ba n bcap)).setCell (Z R 1) (vi vals)).cell? (Z R 1)=some (vi vals) ∧
  FnO w.heap.size own ((w5.setCell (Z R 0) (.slice ba n bcap)).setCell (Z R 1) (vi vals)) (.slice ba n bcap) F.blocks∧Below w.heap.size w ((w5.setCell (Z R 0) (.slice ba n bcap)).setCell (Z R 1) (vi vals)):=by
 have y0:w5.cell? (Z R 0)=some (.slice none 0 0):=by simp[World.cell?,x]
 have y1:w5.cell? (Z R 1)=some (vi 0):=by simp[World.cell?,x]
 refine⟨?_,World.cell?_setCell_same _ _ _ ((World.cell?_setCell_other _ _ _ _ (by simp)).trans y1),?_,?_⟩
 ·rw[World.cell?_setCell_other _ _ _ _ (by simp)];exact World.cell?_setCell_same _ _ _ y0
 ·refine(hF.low' (by omega)).same (fun g hg=>?_) (by simp);have h:g≠R:=by have:=hF.low g hg;omega
  rw[Below.heap_setCell _ _ _ _ (show g≠((Z R 1):Addr).block from h),Below.heap_setCell _ _ _ _ (show g≠((Z R 0):Addr).block from h)]
 ·exact(hB.setCell (p:=(Z R 0)) hR _).setCell (p:=(Z R 1)) hR _
def xY (X:Nat)(ob:Option Nat)(w w':World):Prop := ∀b,b<w.heap.size→b≠X→some b≠ob→w'.heap[b]?=w.heap[b]?
theorem xY.refl (X:Nat)(ob:Option Nat)(w:World):xY X ob w w:=fun _ _ _ _=>rfl
theorem xY.trans {X:Nat}{ob:Option Nat}{a b c:World}(h:xY X ob a b)(hs:a.heap.size≤b.heap.size)(k:xY X ob b c):xY X ob a c:=fun d h1 h2 h3=>(k d (by omega) h2 h3).trans (h d h1 h2 h3)
theorem xY.grown {X:Nat}{ob ob':Option Nat}{w w' w2:World}(hg:w.grownBy w' ob)(ho:ob'=ob∨ob'=some w.heap.size)(h:xY X ob' w' w2):xY X ob w w2:=fun b h1 h2 h3=>by
 rw[h b (Nat.lt_of_lt_of_le h1 hg.size) h2 (by
  rcases ho with rfl|rfl
  ·exact h3
  ·intro e;simp at e
   omega)]
 exact hg.block b h1 h3
def qL {α:Type}(T:TypeId)(k:Nat)(G:World→List Value→α→Prop)(w:World)(lo X:Nat)(v:Value)(l:List α):Prop :=
 ∃xs,w.ownsRow lo T k v l.length xs∧v.ownBlock≠some X∧∀i x,l[i]?=some x→∀w2,xY X v.ownBlock w w2→G w2 ((xs.drop (i*k)).take k) x
theorem qL.empty {α:Type}{T:TypeId}{k:Nat}{G:World→List Value→α→Prop}(w:World)(lo X:Nat):qL T k G w lo X (.slice none 0 0) [] :=
 ⟨[],⟨by simp,.inl ⟨rfl,rfl⟩⟩,by simp[Value.ownBlock],fun i x hx=>by simp at hx⟩
theorem qL.grow {α:Type}{T:TypeId}{k:Nat}{G:World→List Value→α→Prop}{w w':World}{lo X:Nat}{v v':Value}{l:List α}(h:qL T k G w lo X v l)(x:α)(news:List Value)(hn:news.length=k)
  (hown:∀xs,w.ownsRow lo T k v l.length xs→w'.ownsRow lo T k v' (l.length+1) (xs ++ news)) (hg:w.grownBy w' v.ownBlock) (ho:v'.ownBlock=v.ownBlock∨v'.ownBlock=some w.heap.size) (hX:X<w.heap.size) (hG:∀w2,xY X v.ownBlock w w2→G w2 news x):qL T k G w' lo X v' (l ++ [x]):=by
 obtain⟨xs,h1,h2,h3⟩:=h;refine⟨xs ++ news,by simpa using hown xs h1,?_,fun i y hy w2 hk=>?_⟩
 ·rcases ho with e | e
  ·rw[e];exact h2
  ·rw[e];intro e2;simp at e2;omega
 ·have r:=xY.grown hg ho hk;have hlen:xs.length=l.length*k:=h1.1;by_cases hi:i<l.length
  ·rw[List.getElem?_append_left hi] at hy;have e:((xs ++ news).drop (i*k)).take k=(xs.drop (i*k)).take k:=by
    have hle:i*k+k≤xs.length:=by
     rw[hlen,←Nat.succ_mul];exact Nat.mul_le_mul_right k hi
    rw[List.drop_append_of_le_length (by omega),List.take_append_of_le_length (by rw[List.length_drop];omega)]
   rw[e];exact h3 i y hy w2 r
  ·rw[List.getElem?_append_right (by omega)] at hy;have t:i-l.length=0:=by
    rcases Nat.eq_zero_or_pos (i-l.length) with h | h
    ·exact h
    ·rw[List.getElem?_eq_none (by simp;omega)] at hy;cases hy
   rw[t] at hy;simp at hy;subst hy;have B:i=l.length:=by omega
   subst B;have e:((xs ++ news).drop (l.length*k)).take k=news:=by
    rw[←hlen,List.drop_left,List.take_of_length_le (by omega)]
   rw[e];exact hG w2 r
theorem qL.keep {α:Type}{T:TypeId}{k:Nat}{G:World→List Value→α→Prop}{w w':World}{lo X:Nat}{v:Value}{l:List α}(h:qL T k G w lo X v l)(hb:∀b,b<w.heap.size→b≠X→w'.heap[b]?=w.heap[b]?)(hs:w.heap.size≤w'.heap.size):qL T k G w' lo X v l:=by
 obtain⟨xs,h1,h2,h3⟩:=h;refine⟨xs,⟨h1.1,?_⟩,h2,fun i x hx w2 hk=>h3 i x hx w2 (xY.trans (fun b a1 a2 _=>hb b a1 a2) hs hk)⟩;rcases h1.2 with ha | ⟨g,cap,cur,rfl,hlo,hg,hr⟩
 ·exact .inl ha
 ·refine .inr ⟨g,cap,cur,rfl,hlo,?_,hr⟩;rw[hb g (aI hg).1 (by intro e;exact h2 (by rw[e];rfl))];exact hg
section
variable {P:Program} {ops:Array Oper} {Q:Exit→Act→World→Prop} {md:Region.Mode} {S:World→Prop} {m:Nat}
theorem YV {o:Oper}{a:Act}{f:FuncId}{x y:Operand}{ts:Array TypeId}(ho:o.op=Op.call { callee:=Callee.value (Operand.func f),args := #[x,y],argTypes:=ts }){u v:Value}(hx:a.eval x=u)(hy:a.eval y=v)(he:∀args w,(callFunc f args).run P w=.ok (.enter f args) w)(w:World):(execOp a.eval o).run P w=.ok (.enter f #[u,v]) w:=by
 simp[execOp,ho,resolve,invoke,Act.eval,go_sem,he];simp[Act.eval] at hx hy;simp[hx,hy]
theorem abQ {i i2 i3:Nat}{o o2 o3:Oper}{fuel:Nat}{li:Array Bool}{a:Act}{w:World}(ho:ops[i]?=some o)(ho2:ops[i2]?=some o2)(ho3:ops[i3]?=some o3)(hg:o.guard=none)(hg2:o2.guard=none)(hg3:o3.guard=none)(hr:Region.ready md ops li = [i,i2,i3])
  (h:∀K:Act→World→Prop,(∀a' w',(S w'∧wpAnyH P md ops Q S fuel (li.setIfInBounds i true) a' w')→K a' w')→o.wp P a w K Q)
  (h2:∀K:Act→World→Prop,(∀a' w',(S w'∧wpAnyH P md ops Q S fuel (li.setIfInBounds i2 true) a' w')→K a' w')→o2.wp P a w K Q)
  (h3:∀K:Act→World→Prop,(∀a' w',(S w'∧wpAnyH P md ops Q S fuel (li.setIfInBounds i3 true) a' w')→K a' w')→o3.wp P a w K Q):wpAnyH P md ops Q S (fuel+1) li a w:=by
 refine wpAnyH_all hr (by simp) (fun j hj=>?_);have e:j=i∨j=i2∨j=i3:=by simpa using hj
 rcases e with e | e | e
 ·subst e;unfold wpOp;simp only[ho];rw[if_pos (by simp[Region.wanted,hg])];exact .inl (h _ (fun _ _ h=>h))
 ·subst e;unfold wpOp;simp only[ho2];rw[if_pos (by simp[Region.wanted,hg2])];exact .inl (h2 _ (fun _ _ h=>h))
 ·subst e;unfold wpOp;simp only[ho3];rw[if_pos (by simp[Region.wanted,hg3])];exact .inl (h3 _ (fun _ _ h=>h))
theorem xy {o:Oper}{a:Act}{x y:Operand}{t:TypeId}(ho:o.op=.makeSlice t x y){p q v:Value}(hx:a.eval x=p)(hy:a.eval y=q){w w':World}(h:(Instr.makeSlice t p q).run P w=.ok v w'):(execOp a.eval o).run P w=.ok (.value v) w':=by
 simp[execOp,ho,hx,hy,h]
theorem kW {i:Nat}{o:Oper}{fuel:Nat}{li:Array Bool}{a:Act}{w:World}(ho:ops[i]?=some o)(hg:o.guard=none)(hr:Region.ready md ops li = [i])
  (h:∀K:Act→World→Prop,(∀a' w',((i≠m→S w')∧xQ P md ops Q m S fuel (li.setIfInBounds i true) a' w')→K a' w')→o.wp P a w K Q):xQ P md ops Q m S (fuel+1) li a w :=
 kC ho hg hr (h _ (fun _ _ h=>h))
end
end Go.Proofs.YtkbhbekfniadhaaGreat
