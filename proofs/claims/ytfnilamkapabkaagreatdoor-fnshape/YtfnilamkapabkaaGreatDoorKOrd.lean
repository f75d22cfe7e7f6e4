/- The model's l3Left: from a block on, what was come to and what was left, as mathematics says. The model's Order: those that are reached, as they are left last. The model's Order, for every program. -/
import Derived.Test.YtfnilamkapabkaaGreatDoorKDfs
import Derived.Test.YtfnilamkapabkaaGreatDoorKGraph
import Derived.Maps.AppendAt
import Derived.Deep.RegionWith
import Derived.BigRegion
import Derived.Test.YtfnilamkapabkaaGreatDoorKTo
import Derived.Laws.OwnMore
import Derived.Test.YtfnilamkapabkaaGreatDoorKSh8
namespace Go.Proofs.YtfnilamkapabkaaGreatDoor
open Go.ChangeShapes Go.WideShapes Go.ChangeAt Go.RowKit Go.Shelf
set_option linter.unusedVariables false
def seenCells (n:Nat)(seen:List Nat):Array Value:=((List.range n).map (fun i=>Value.bool (decide (i∈seen)))).toArray
def SeenRow (w:World)(g n:Nat)(seen:List Nat):Prop:=w.heap[g]? = some (.cells (seenCells n seen) 4 (0,0))
theorem SeenRow.lt {w:World}{g n:Nat}{seen:List Nat}(h:SeenRow w g n seen):g<w.heap.size:=(Array.getElem?_eq_some_iff.1 h).1
theorem SeenRow.cell {w:World}{g n:Nat}{seen:List Nat}(h:SeenRow w g n seen){j:Nat}(hj:j<n):w.cell? ⟨g,j,none⟩=some (.bool (decide (j∈seen))):=by
 simp[World.cell?,show w.heap[g]? = _ from h,seenCells,hj]
theorem SeenRow.frozen {w:World}{g n:Nat}{seen:List Nat}(h:SeenRow w g n seen)(j:Nat):w.frozen? ⟨g,j,none⟩=false:=by simp[World.frozen?,show w.heap[g]? = _ from h]
theorem seenCells_set (n:Nat)(seen:List Nat)(b:Nat):(seenCells n seen).setIfInBounds b (.bool true)=seenCells n (b :: seen):=by
 apply Array.ext
 ·simp[seenCells]
 ·intro i h1 h2
  have hi:i<n:=by simpa [seenCells] using h1
  rw[Array.getElem_setIfInBounds (by simpa [seenCells] using hi)]
  by_cases e:b=i
  ·subst e
   simp[seenCells]
  ·have e2:¬i=b:=fun h=>e h.symm
   simp[seenCells,e,e2]
theorem SeenRow.put {w:World}{g n:Nat}{seen:List Nat}(h:SeenRow w g n seen)(b:Nat):SeenRow (w.setCell ⟨g,b,none⟩ (.bool true)) g n (b :: seen):=by
 obtain⟨hlt,hk⟩:=Array.getElem?_eq_some_iff.1 h
 show(w.heap.modify g _)[g]? = _
 rw[Array.getElem?_eq_getElem (by rw[Array.size_modify];exact hlt),Array.getElem_modify_self,hk]
 simp[seenCells_set]
def NewOr (ov ov':Value)(N:Nat):Prop:=ov'.ownBlock=ov.ownBlock∨∀k,ov'.ownBlock=some k→N≤k
structure FrO (g:Nat)(ov:Value)(w w':World):Prop where
 size:w.heap.size≤w'.heap.size
 block:∀k,k<w.heap.size→k≠g→some k≠ov.ownBlock→w'.heap[k]? = w.heap[k]?
theorem FrO.refl (g:Nat)(ov:Value)(w:World):FrO g ov w w:=⟨Nat.le_refl _,fun _ _ _ _=>rfl⟩
theorem FrO.later {g:Nat}{ov:Value}{w a b:World}(h:FrO g ov w a)(k:Below a.heap.size a b):FrO g ov w b :=
 ⟨Nat.le_trans h.size k.size,fun i hi h1 h2=>(k.block i (Nat.lt_of_lt_of_le hi h.size)).trans (h.block i hi h1 h2)⟩
theorem FrO.next {g:Nat}{ov o1:Value}{w a b:World}(h:FrO g ov w a)(hn:NewOr ov o1 w.heap.size)(k:FrO g o1 a b):FrO g ov w b :=
 ⟨Nat.le_trans h.size k.size,fun i hi h1 h2=>(k.block i (Nat.lt_of_lt_of_le hi h.size) h1 (fun e=>by
  rcases hn with e2 | e2
  ·exact h2 (e.trans e2)
  ·have:=e2 i e.symm;omega)).trans (h.block i hi h1 h2)⟩
theorem grown_set (W:World)(g o:Nat)(v:Value):W.grownBy (W.setCell ⟨g,o,none⟩ v) (some g) :=
 ⟨rfl,rfl,rfl,by simp[World.setCell],fun k _ hk=>Below.heap_setCell _ _ _ k (fun e=>hk (by rw[e]))⟩
theorem OwnInts.set {w:World}{lo:Nat}{v:Value}{l:List Int}(h:OwnInts w lo v l){g:Nat}(hne:some g≠v.ownBlock)(o:Nat)(u:Value):OwnInts (w.setCell ⟨g,o,none⟩ u) lo v l :=
 World.ownsRow.kept h (grown_set w g o u) (.inr hne.symm)
theorem SeenRow.not_row {w:World}{g n:Nat}{seen:List Nat}(h:SeenRow w g n seen){lo:Nat}{v:Value}{l:List Int}(ho:OwnInts w lo v l):some g≠v.ownBlock:=ho.not_box h (by decide)
theorem SeenRow.later {w w':World}{g n:Nat}{seen:List Nat}(h:SeenRow w g n seen)(hb:Below w.heap.size w w'):SeenRow w' g n seen:=(hb.block g h.lt).trans h
def Apart (a b:Value):Prop := ∀k,a.ownBlock=some k→b.ownBlock≠some k
theorem IntsAt.apart {w w':World}{v ov:Value}{l:List Int}(h:IntsAt w v l){g:Nat}(hf:FrO g ov w w')(hv:∀k,v.ownBlock=some k→k<w.heap.size∧k≠g)(ha:Apart v ov):IntsAt w' v l:=by
 obtain⟨a,cap,rfl,hm,hc⟩:=h
 refine⟨a,cap,rfl,hm,fun hp=>?_⟩
 obtain⟨b,off,rfl,hd⟩:=hc hp
 have hb:=hv b rfl
 exact⟨b,off,rfl,fun i hi=>by rw[World.cell?_of_block (w:=w) (w':=w') (a:=⟨b,off+i,none⟩) (hf.block b hb.1 hb.2 (fun e=>ha b rfl e.symm))];exact hd i hi⟩
theorem SeenRow.store {w:World}{g n:Nat}{seen seen':List Nat}(h:SeenRow w g n seen)(b:Nat)(v:Bool)(hm:∀i,i<n→decide (i∈seen')=if i=b then v else decide (i∈seen)):SeenRow (w.setCell ⟨g,b,none⟩ (.bool v)) g n seen':=by
 obtain⟨hlt,hk⟩:=Array.getElem?_eq_some_iff.1 h
 show(w.heap.modify g _)[g]? = _
 rw[Array.getElem?_eq_getElem (by rw[Array.size_modify];exact hlt),Array.getElem_modify_self,hk]
 have e:(seenCells n seen).setIfInBounds b (.bool v)=seenCells n seen':=by
  apply Array.ext
  ·simp[seenCells]
  ·intro i h1 h2
   have hi:i<n:=by simpa [seenCells] using h1
   rw[Array.getElem_setIfInBounds (by simpa [seenCells] using hi)]
   have h3:=hm i hi
   have e1:(seenCells n seen')[i] = .bool (decide (i∈seen')):=by simp[seenCells]
   have e2:(seenCells n seen)[i]'(by simpa [seenCells] using hi) = .bool (decide (i∈seen)):=by simp[seenCells]
   rw[e1,e2,h3]
   by_cases e:b=i
   ·subst e
    simp
   ·have e3:¬i=b:=fun h=>e h.symm
    simp[e,e3]
 simp[e]
theorem SeenRow.congr {w:World}{g n:Nat}{a b:List Nat}(h:SeenRow w g n a)(hm:∀i,i<n→(i∈a↔i∈b)):SeenRow w g n b:=by
 have e:seenCells n a=seenCells n b:=by
  unfold seenCells
  congr 1
  apply List.map_congr_left
  intro i hi
  have:=hm i (by simpa using hi)
  simp[this]
 unfold SeenRow at h ⊢
 rw[h,e]
theorem SeenRow.drew {w:World}{g n:Nat}{seen:List Nat}(h:SeenRow w g n seen):SeenRow w.drew g n seen:=h
theorem OwnInts.drew {w:World}{lo:Nat}{v:Value}{l:List Int}(h:OwnInts w lo v l):OwnInts w.drew lo v l:=h
end Go.Proofs.YtfnilamkapabkaaGreatDoor
