/- Lists of edges: of the call's own, read, compared, marked, held against the marks. Preds of the model and of the program, whole. Small facts of lists of numbers in memory. Critical of the program. -/
import Derived.Test.YtkbhbekfniadhaaGreatTk0
import Derived.Test.YtkbhbekfniadhaaGreatKTo
import Derived.Test.YtkbhbekfniadhaaGreatKIns
import Derived.Maps.AppendAt
import Derived.Test.YtkbhbekfniadhaaGreatKPre
import Derived.Test.YtkbhbekfniadhaaGreatKDfs
import Derived.Test.YtkbhbekfniadhaaGreatKSh8
import Derived.Test.YtkbhbekfniadhaaGreatKSh5
namespace Go.Proofs.YtkbhbekfniadhaaGreat
open Go.ChangeShapes Go.WideShapes Go.ChangeAt Go.RowKit Go.Shelf
set_option linter.unusedVariables false
def edgeC : List jy→List Value
 | []=>[]
 | e::l=>vi e.fr :: vi e.v::edgeC l
theorem edgeC_at (l:List jy):∀{i:Nat} {x:jy},l[i]?=some x→(edgeC l)[i*2]?=some (vi x.fr)∧(edgeC l)[i*2+1]?=some (vi x.v):=by
 induction l with
 | nil=>intro i x h;simp at h
 | cons e l ih=>
  intro i x h;cases i with
  | zero=>
   simp at h;subst h;exact⟨rfl,rfl⟩
  | succ i=>
   simp at h;have:=ih h;rw[show(i+1)*2=i*2+1+1 by omega];simpa [edgeC] using this
theorem ag2 (l m:List jy):edgeC (l ++ m)=edgeC l ++ edgeC m:=by
 induction l with
 | nil=>rfl
 | cons e l ih=>simp[edgeC,ih]
def jJ (w:World)(lo:Nat)(v:Value)(l:List jy):Prop:=w.ownsRow lo 149 2 v l.length (edgeC l)
theorem jJ.row {w:World}{lo:Nat}{v:Value}{l:List jy}(h:jJ w lo v l) :
  ∃a cap,v=.slice a l.length cap∧(0<l.length→∃g,a=some (Z g 0)∧lo≤g∧g<w.heap.size∧(∀i x,l[i]?=some x→qq w g (i*2) x)∧∀i,w.frozen? (Z g i)=false):=by
 rcases h.2 with ⟨rfl,h0⟩ | ⟨g,cap,cur,rfl,hlo,hg,h1,h2,h3,h4⟩
 ·exact⟨none,0,by rw[h0],fun hp=>absurd hp (by omega)⟩
 ·refine⟨_,cap,rfl,fun hp=>⟨g,rfl,hlo,(aI hg).1,fun i x hx=>?_,fun i=>?_⟩⟩
  ·have hi:i<l.length:=(List.getElem?_eq_some_iff.1 hx).1;obtain⟨c0,c1⟩:=edgeC_at l hx;have e0:cur[i*2]?=some (vi x.fr):=by
    have e1:(cur.toList.take (l.length*2))[i*2]?=cur[i*2]?:=by rw[List.getElem?_take];simp;omega
    rw[←e1,h4];exact c0
   have e2:cur[i*2+1]?=some (vi x.v):=by
    have e1:(cur.toList.take (l.length*2))[i*2+1]?=cur[i*2+1]?:=by rw[List.getElem?_take];simp;omega
    rw[←e1,h4];exact c1
   exact⟨by simp[World.cell?,hg,e0],by simp[World.cell?,hg,e2]⟩
  ·simp[World.frozen?,hg]
theorem jJ.keep {w w':World}{lo:Nat}{v:Value}{l:List jy}(h:jJ w lo v l)(hb:Below w.heap.size w w'):jJ w' lo v l:=y8 h hb
def afC (w:World)(l:List jy)(e:Ending)(w':World):Prop := ∃v,e=.returned v∧jJ w' w.heap.size v l∧Below w.heap.size w w'
theorem acZ {w w':World}{lo g:Nat}(hg:w'.heap[g]?=some (.cells #[] 149 (0,0)))(hl:lo≤g):jJ w' lo (sq g 0 0 0) [] :=
 ⟨rfl,.inr ⟨g,0,#[],rfl,hl,hg,Nat.le_refl _,Nat.zero_le _,rfl,rfl⟩⟩
theorem jJ.next {w:World}{lo:Nat}{v:Value}{l:List jy}{x:jy}(h:w.ownsRow lo 149 2 v (l.length+1) (edgeC l ++ [vi x.fr,vi x.v])):jJ w lo v (l ++ [x]):=by
 unfold jJ;rw[ag2,List.length_append];exact h
theorem jJ.zQ {w:World}{lo:Nat}{v:Value}{l:List jy}(h:jJ w lo v l){B:Nat}{c:Array Value}{t:TypeId}{z:Nat × Nat}(hB:w.heap[B]?=some (.cells c t z))(ht:t≠149):some B≠v.ownBlock:=by
 rcases h.2 with ⟨rfl,_⟩ | ⟨g,cap,cur,rfl,_,hgb,_⟩
 ·simp[Value.ownBlock]
 ·intro e';obtain rfl:B=g:=by simpa [Value.ownBlock] using e'
  rw[hgb] at hB;simp at hB;exact ht hB.2.1.symm
end Go.Proofs.YtkbhbekfniadhaaGreat
namespace Go.Proofs.YtkbhbekfniadhaaGreat
open Go.ChangeShapes Go.WideShapes Go.ChangeAt Go.RowKit Go.Shelf
set_option linter.unusedVariables false
theorem jV.cellsQ {w:World}{oa:Option Addr}{n ocap:Nat}{o:List Int}(h:jV w (.slice oa n ocap) o):∀k,k<n→∃b off,oa=some (Z b off)∧w.cell? (Z b (off+k))=some (vi (o.getD k 0)):=by
 intro k hk;obtain⟨a,cap,e,_,hc⟩:=h;simp at e;obtain⟨rfl,rfl,rfl⟩:=e;obtain⟨b,off,rfl,hd⟩:=hc (by omega);exact⟨b,off,rfl,hd k hk⟩
theorem getD_in {l:List Int}{i:Nat}(h:i<l.length):l.getD i 0∈l:=by
 rw[List.getD_eq_getElem?_getD,List.getElem?_eq_getElem h];exact List.getElem_mem h
theorem ag3 : (Tryz.prog.info? 149).map (fun i=>(i.zero,i.size,i.bytes))=some (some (.agg #[vi 0,vi 0]),2,16):=by kernel_rfl
theorem QN (w:World)(x y:Value)(t:TypeId):∀j u,[x,y][j]?=some u→(w.alloc (.cells #[x,y] t)).cell? (((Z w.heap.size 0):Addr).add j)=some u:=by
 intro j u hj
 match j,hj with
 | 0,hj=>simp at hj;subst hj;simp[Addr.add]
 | 1,hj=>simp at hj;subst hj;simp[Addr.add]
 | j+2,hj=>simp at hj
theorem ac0 {w:World}{g lo:Nat}(hg:w.heap.size=g)(hl:lo≤g):jJ (w.alloc (.cells #[] 149)) lo (sq g 0 0 0) []:=by
 subst hg;exact acZ (w:=w) (World.alloc_heap_new w _) hl
theorem QO {W w1:World}{lo:Nat}{e:TypeId}{sz k:Nat}{v:Value}{xs:List Value}(h:W.ownsRow lo e sz v k xs)(hlo:lo≤W.heap.size){o:Obj}(hg:(W.alloc o).grownBy w1 v.ownBlock):Below lo W w1:=by
 refine((Below.refl lo W).alloc hlo o).grown hg (by simp;omega) fun j ej=>?_
 rcases h.2 with ⟨rfl,_⟩ | ⟨g,cap,cur,rfl,hb,_,_⟩
 ·simp[Value.ownBlock] at ej
 ·obtain rfl:g=j:=by simpa [Value.ownBlock] using ej
  exact hb
theorem ZA {w w':World}{lo:Nat}{u:Value}{m:List jy}(he:jJ w lo u m){o:Obj}(hg:(w.alloc o).grownBy w' u.ownBlock){B:Nat}{c:Array Value}{t:TypeId}{z:Nat × Nat}(hB:w.heap[B]?=some (.cells c t z))(ht:t≠149):w'.heap[B]?=some (.cells c t z):=by
 have h:=(aI hB).1;exact(hg.block B (by simp;omega) (he.zQ hB ht)).trans ((Below.heap_alloc _ _ _ h).trans hB)
theorem abh {w w':World}{lo lo':Nat}{v u:Value}{l:List Int}{m:List jy}(h:ja w lo' v l)(he:jJ w lo u m){o:Obj}(hg:(w.alloc o).grownBy w' u.ownBlock):ja w' lo' v l:=by
 obtain⟨h0,h1⟩:=h;refine⟨h0,?_⟩;rcases h1 with h1 | ⟨g,cap,cur,rfl,hlo,hgc,h2⟩
 ·exact .inl h1
 ·exact .inr ⟨g,cap,cur,rfl,hlo,ZA he hg hgc (by decide),h2⟩
end Go.Proofs.YtkbhbekfniadhaaGreat
