/- Sets as ascending lists of the call's own, in memory: the library's search, insertion and deletion over them. The program's sets: copy, add and drop, by their contracts. A list of numbers, or of flags, appended to an empty one: a copy of the call's own; the program's copy of a set. -/
import Derived.Test.YtkbhbekfniadhaaGreatTk0
import Derived.Test.YtkbhbekfniadhaaGreatKLDef
import Derived.Test.YtkbhbekfniadhaaGreatSetLay
import Derived.Deep.Upon
import Derived.Deep.MidRow
import Derived.ArgAppend
import Derived.Lib.AppendZeros
set_option maxRecDepth 100000
set_option maxHeartbeats 8000000
namespace Go.Proofs.YtkbhbekfniadhaaGreat
open Go.ChangeShapes Go.WideShapes Go.ChangeAt Go.RowKit
set_option linter.unusedVariables false
theorem x8 {w:World}{lo g n cap:Nat}{l:List Int}{cur:Array Value}(hl:l.length=n)(hg:lo≤g)(hb:w.heap[g]?=some (.cells cur 3 (0,0)))(hc:cur.size=cap)(hn:n≤cap)(hm:cap≤maxLen)
  (hx:∀j,j<n→w.cell? (Z g j)=some (vi (l.getD j 0))):ja w lo (sq g 0 n cap) l:=by
 subst hl;refine⟨by simp,.inr ⟨g,cap,cur,rfl,hg,hb,hn,hm,by omega,?_⟩⟩
 apply List.ext_getElem?
 intro j;rw[Nat.mul_one,List.getElem?_take,List.getElem?_map];by_cases hj:j<l.length
 ·have h:=hx j hj;have r:j<cur.size:=by omega
  simp[World.cell?,hb,r] at h;simp[hj,r,h]
 ·have:l[j]?=none:=List.getElem?_eq_none (by omega);rw[if_neg hj,this]
  rfl
theorem ja.cells {w:World}{lo g n cap:Nat}{l:List Int}(h:ja w lo (sq g 0 n cap) l):l.length=n∧lo≤g∧n≤cap∧cap≤maxLen∧(∃cur,w.heap[g]?=some (.cells cur 3 (0,0))∧cur.size=cap)∧∀j,j<n→w.cell? (Z g j)=some (vi (l.getD j 0)):=by
 rcases h with ⟨_,⟨h0,_⟩ | ⟨g',cap',cur,hv,hlo,hg,h1,h2,h3,h4⟩⟩
 ·cases h0
 ·simp at hv;obtain⟨rfl,rfl,rfl⟩:=hv;refine⟨rfl,hlo,h1,h2,⟨cur,hg,by omega⟩,fun j hj=>?_⟩;have e:=congrArg (fun m=>m[j]?) h4;rw[Nat.mul_one,List.getElem?_take,if_pos hj,List.getElem?_map] at e;have r:j<cur.size:=by omega
  simp[r,hj] at e;simp[World.cell?,hg,r,e,hj]
theorem ja.shape {w:World}{lo:Nat}{v:Value}{l:List Int}(h:ja w lo v l):(v=.slice none 0 0∧l = [])∨∃g cap,v=sq g 0 l.length cap:=by
 rcases h with ⟨_,⟨h0,h1⟩ | ⟨g',cap',cur,hv,_⟩⟩
 ·exact .inl ⟨h0,List.length_eq_zero_iff.1 h1⟩
 ·exact .inr ⟨g',cap',hv⟩
theorem qU (g:Nat):∀(vs:List Value) (o:Nat) (w:World) (cur:Array Value) (e:TypeId) (z:Nat × Nat),w.heap[g]?=some (.cells cur e z)→∃cur',(w.setCells g o vs).heap[g]?=some (.cells cur' e z)∧cur'.size=cur.size
 | [],o,w,cur,e,z,h=>⟨cur,h,rfl⟩
 | v::vs,o,w,cur,e,z,h=>by
  obtain⟨hlt,hk⟩:=aI h;have h1:(w.setCell (Z g o) v).heap[g]?=some (.cells (cur.setIfInBounds o v) e z):=by
   show(w.heap.modify g _)[g]?=_;rw[Array.getElem?_eq_getElem (by rw[Array.size_modify];exact hlt),Array.getElem_modify_self,hk]
   rfl
  obtain⟨cur',h2,h3⟩:=qU g vs (o+1) (w.setCell (Z g o) v) _ e z h1;exact⟨cur',h2,by rw[h3];simp⟩
theorem qE {w:World}{g o:Nat}{vs:List Value}:w.grownBy (w.setCells g o vs) (some g):=by
 refine⟨World.os_setCells _ _ _ _,?_,World.output_setCells _ _ _ _,?_,fun k hk h=>World.heap_setCells_other w g o vs hk (fun e=>h (by rw[e]))⟩
 ·induction vs generalizing o w with
  | nil=>rfl
  | cons v vs ih=>exact(ih (w:=w.setCell (Z g o) v) (o:=o+1)).trans rfl
 ·induction vs generalizing o w with
  | nil=>exact Nat.le_refl _
  | cons v vs ih=>
   have:=ih (w:=w.setCell (Z g o) v) (o:=o+1);have e:(w.setCell (Z g o) v).heap.size=w.heap.size:=by show(w.heap.modify _ _).size=_;simp
   rw[e] at this;exact this
theorem yU {a b c:World}{r:Option Nat}(h:a.grownBy b r)(k:b.grownBy c r):a.grownBy c r :=
 ⟨k.os.trans h.os,k.tape.trans h.tape,k.output.trans h.output,Nat.le_trans h.size k.size,fun i hi t=>(k.block i (Nat.lt_of_lt_of_le hi h.size) t).trans (h.block i hi t)⟩
theorem ab0 (w:World)(q:Nat)(r:Option Nat):w.grownBy (w.drewN q) r:=⟨rfl,rfl,rfl,Nat.le_refl _,fun _ _ _=>rfl⟩
theorem grownBy_drew (w:World)(r:Option Nat):w.grownBy w.drew r:=⟨rfl,rfl,rfl,Nat.le_refl _,fun _ _ _=>rfl⟩
theorem abo (lo:Nat)(sv:Value)(l:List Int)(x:Int)(w:World)(h:ja w lo sv l)(ha:Asc l)(hs:l.length≤80) :
  Calls Tryz.prog 90 #[sv,vi x] w fun e w'=>e=.returned (.tuple #[vi (xu l x:Nat),.bool (l.contains x)])∧∃q,w'=w.drewN q:=by
 rcases h.shape with ⟨rfl,rfl⟩ | ⟨g,cap,rfl⟩
 ·refine(Any.slices_BinarySearch_int_empty Tryz.lays25 none 0 x w).mono ?_;rintro e w' ⟨rfl,rfl⟩;exact⟨by simp[xu],0,rfl⟩
 ·obtain⟨_,_,hn,hm,_,hx⟩:=h.cells;have:=Any.slices_BinarySearch_int Tryz.lays25 g 0 l.length cap l x w (Nat.le_refl _) (by omega) (fun j hj=>by rw[Nat.zero_add];exact hx j hj) (by rw[List.take_length];exact asc_le ha);rw[List.take_length] at this;exact this
def ZS (w:World)(lo:Nat)(sv:Value)(l:List Int)(e:Ending)(w':World):Prop := ∃sv',e=.returned sv'∧ja w' lo sv' l∧w.grownBy w' sv.ownBlock∧(sv'.ownBlock=sv.ownBlock∨sv'.ownBlock=some w.heap.size)
theorem YW (l:List Int)(k:Nat)(v:Int)(hk:k≤l.length)(j:Nat):(l.take k ++ v::l.drop k).getD j 0=if j<k then l.getD j 0 else if j=k then v else l.getD (j-1) 0:=by
 have hl:(l.take k).length=k:=by simp;omega
 simp only[List.getD_eq_getElem?_getD];by_cases h:j<k
 ·rw[if_pos h,List.getElem?_append_left (by omega),List.getElem?_take,if_pos h]
 ·rw[if_neg h,List.getElem?_append_right (by omega),hl];by_cases e:j=k
  ·subst e;simp
  ·rw[if_neg e];obtain⟨d,rfl⟩:∃d,j=k+1+d:=⟨j-k-1,by omega⟩;rw[show k+1+d-k=d+1 by omega,List.getElem?_cons_succ,List.getElem?_drop,show k+d=k+1+d-1 by omega]
theorem x9 (n:Nat):(Builtin.zeroCells (vi 0).cells n).size=n:=by rw[size_zeroCells];simp[Value.cells]
theorem afO (lo:Nat)(sv:Value)(l:List Int)(k:Nat)(x:Int)(vb:Nat)(w:World)(h:ja w lo sv l)(hk:k≤l.length)(hs:l.length≤80)(hlo:lo≤w.heap.size)
  (hb:w.heap[vb]?=some (.cells #[vi x] 3 (0,0))) (hne:sv.ownBlock≠some vb) :
  Calls Tryz.prog 91 #[sv,vi k,sq vb 0 1 1] w fun e w'=>ZS w lo sv (l.take k ++ x::l.drop k) e w':=by
 have M:∀(j:Nat) v,[vi x][j]?=some v→w.cell? (Z vb (0+j))=some v:=fun j v hv=>by
  match j with
  | 0=>simp at hv;subst hv;simp[World.cell?,hb]
  | j+1=>simp at hv
 have L:∀v∈[vi x],v.oneCell'=true:=fun v hv=>by simp at hv;subst hv;rfl
 have hlen:(l.take k ++ x::l.drop k).length=l.length+1:=by simp;omega
 have I:∀(base:Option Addr) (c:Nat),sv=.slice base l.length c→k=l.length→l.length≤c→c<l.length+1→(base=none→l.length=0)→(∀a,base=some a→∀(j:Nat) v,(l.map (Value.int .i64))[j]?=some v→w.cell? (a.add j)=some v) →
   Calls Tryz.prog 91 #[sv,vi k,sq vb 0 1 1] w fun e w'=>ZS w lo sv (l.take k ++ x::l.drop k) e w':=fun base c e1 e2 h1 h2 h3 h4=>by
  subst e1;subst e2;refine(Any2.slices_Insert_int_end_grow Tryz.lays21 base l.length c vb 0 1 1 (l.map (Value.int .i64)) [vi x] w (by omega) h1 h2 (by omega) (by simp) rfl h3 h4 M L).mono ?_;rintro e w' ⟨rfl,rfl⟩;have J:=grownCap_ge w (l.length+1) c (Tryz.lays21_ren.t 3);have hle:=grownCap_le_maxLen w (l.length+1) c (Tryz.lays21_ren.t 3) (by unfold maxLen;omega);obtain⟨C,hC⟩:∃C,grownCap w (l.length+1) c (Tryz.lays21_ren.t 3)=C:=⟨_,rfl⟩;rw[hC] at J hle ⊢;have B:=World.alloc_heap_new w.drew (.cells ((l.map (Value.int .i64) ++ [vi x]).toArray ++ Builtin.zeroCells (vi 0).cells (C-(l.length+1))) (Tryz.lays21_ren.t 3));refine⟨_,rfl,?_,yU (grownBy_drew w _) (World.grownBy_alloc w.drew _ _),.inr rfl⟩;have ht:Tryz.lays21_ren.t 3=3:=rfl;have hsz:((l.map (Value.int .i64) ++ [vi x]).toArray ++ Builtin.zeroCells (vi 0).cells (C-(l.length+1))).size=C:=by
   rw[Array.size_append,x9];simp;omega
  refine x8 hlen hlo (by rw[←ht];exact B) hsz J hle (fun j hj=>?_);rw[YW l l.length x (Nat.le_refl _)];have O:j<(l.map (Value.int .i64) ++ [vi x]).length:=by simp;omega
  have hc:((l.map (Value.int .i64) ++ [vi x]).toArray ++ Builtin.zeroCells (vi 0).cells (C-(l.length+1)))[j]?=(l.map (Value.int .i64) ++ [vi x])[j]?:=by
   rw[Array.getElem?_append_left (by simpa using O)];simp
  have hw:(w.drew.alloc (.cells ((l.map (Value.int .i64) ++ [vi x]).toArray ++ Builtin.zeroCells (vi 0).cells (C-(l.length+1))) (Tryz.lays21_ren.t 3))).cell? (Z w.heap.size j)=(l.map (Value.int .i64) ++ [vi x])[j]?:=by
   have K:(w.drew.alloc (.cells ((l.map (Value.int .i64) ++ [vi x]).toArray ++ Builtin.zeroCells (vi 0).cells (C-(l.length+1))) (Tryz.lays21_ren.t 3))).heap[w.heap.size]?=_:=B;rw[←hc];unfold World.cell?;dsimp only;rw[K]
   rfl
  rw[hw];by_cases h:j<l.length
  ·rw[if_pos h,List.getElem?_append_left (by simpa using h)];simp[h]
  ·obtain rfl:j=l.length:=by omega
   rw[if_neg h,if_pos rfl,List.getElem?_append_right (by simp)];simp
 rcases h.shape with ⟨rfl,rfl⟩ | ⟨g,cap,rfl⟩
 ·have:k=0:=by simpa using hk
  exact I none 0 rfl this (by simp) (by simp) (fun _=>rfl) (fun a ha=>by cases ha)
 obtain⟨_,hg,hn,hm,⟨cur,hcur,hcs⟩,hx⟩:=h.cells;have aa:(l.map (Value.int .i64)).length=l.length:=by simp
 have H:∀(j:Nat) v,(l.map (Value.int .i64))[j]?=some v→w.cell? (Z g (0+j))=some v:=fun j v hv=>by
  rw[List.getElem?_map] at hv;have hj:j<l.length:=by
   rcases Nat.lt_or_ge j l.length with h | h
   ·exact h
   ·rw[List.getElem?_eq_none h] at hv;cases hv
  rw[Nat.zero_add,hx j hj,←hv];simp[hj]
 have X:∀v∈l.map (Value.int .i64),v.oneCell'=true:=fun v hv=>by
  obtain⟨y,_,rfl⟩:=List.mem_map.1 hv
  rfl
 have r:∀j,j<cap→(w.cell? (Z g j)).isSome=true:=fun j hj=>by simp[World.cell?,hcur,hcs,hj]
 have ab:∀j,w.frozen? (Z g j)=false:=fun j=>by simp[World.frozen?,hcur]
 have am:vb≠g:=fun e=>hne (by simp[Value.ownBlock,e])
 by_cases G:l.length+1≤cap
 ·by_cases V:k=l.length
  ·subst V;refine(Any2.slices_Insert_int_end_room Tryz.lays21 g 0 l.length cap vb 0 1 1 [vi x] w (by omega) G (by unfold maxLen at hm;omega) rfl (fun j hj=>r _ (by omega)) (fun j hj=>ab _) M L).mono ?_;rintro e w' ⟨rfl,rfl⟩;obtain⟨ae,hc1,hc2⟩:=qU g [vi x] (0+l.length) w cur _ _ hcur;refine⟨_,rfl,x8 hlen hg hc1 (by omega) G hm (fun j hj=>?_),qE,.inl rfl⟩;rw[YW l l.length x (Nat.le_refl _)];by_cases h:j<l.length
   ·rw[if_pos h,World.cell?_setCells_out g _ _ w (Z g j) (fun _ _=>.inl (by show j<0+l.length;omega))];exact hx j h
   ·obtain rfl:j=l.length:=by omega
    rw[if_neg h,if_pos rfl];have:=World.cell?_setCells_in g [vi x] (0+l.length) w (fun j hj=>r _ (by simp at hj;omega)) 0 (by simp);simpa using this
  ·have ak:w.shape? vb=some (3,1):=by simp[World.shape?,hb]
   have aj:w.shape? g=some (3,cap):=by simp[World.shape?,hcur,hcs]
   refine(Any2.slices_Insert_int_shift Tryz.lays21 g 0 l.length cap k vb 0 1 1 (l.map (Value.int .i64)) [vi x] w (by omega) (by omega) G (by unfold maxLen at hm;omega) am aa rfl H (fun j hj=>r _ (by omega)) (fun j hj=>ab _) M X L _ _ _ _ ak aj (by omega) (by simp[World.frozen?,hb]) (by simp[World.frozen?,hb])).mono ?_;rintro e w' ⟨rfl,rfl⟩;obtain⟨c1,hc1,hs1⟩:=qU g ((l.map (Value.int .i64)).drop k) (0+(k+1)) w.drew cur _ _ hcur;obtain⟨c2,hc2,hs2⟩:=qU g [vi x] (0+k) _ c1 _ _ hc1;refine⟨_,rfl,x8 hlen hg hc2 (by omega) G hm (fun j hj=>?_),yU (grownBy_drew w _) (yU qE qE),.inl rfl⟩;have ah:((l.map (Value.int .i64)).drop k).length=l.length-k:=by simp
   have ai:∀j,j<((l.map (Value.int .i64)).drop k).length→(w.drew.cell? (Z g (0+(k+1)+j))).isSome=true:=fun j hj=>r _ (by omega)
   rw[YW l k x hk];by_cases h:j<k
   ·rw[if_pos h,World.cell?_setCells_out g _ _ _ (Z g j) (fun _ _=>.inl (by show j<0+k;omega)),World.cell?_setCells_out g _ _ _ (Z g j) (fun _ _=>.inl (by show j<0+(k+1);omega))];exact hx j (by omega)
   ·rw[if_neg h];by_cases e:j=k
    ·subst e;rw[if_pos rfl];have:=World.cell?_setCells_in g [vi x] (0+j) (w.drew.setCells g (0+(j+1)) ((l.map (Value.int .i64)).drop j)) (fun i hi=>World.isSome_setCells g _ _ _ _ (r _ (by simp at hi;omega))) 0 (by simp);simpa using this
    ·rw[if_neg e,World.cell?_setCells_out g _ _ _ (Z g j) (fun _ _=>.inr (by show 0+k+1≤j;omega))];obtain⟨d,rfl⟩:∃d,j=k+1+d:=⟨j-k-1,by omega⟩;have:=World.cell?_setCells_in g ((l.map (Value.int .i64)).drop k) (0+(k+1)) w.drew ai d (by omega);rw[Nat.zero_add] at this;rw[Nat.zero_add,this];have U:k+d<l.length:=by omega
     simp[U]
 ·by_cases V:k=l.length
  ·refine I (some (Z g 0)) cap rfl V hn (by omega) (fun e=>by cases e) (fun a ha j v hv=>?_);cases ha
   rw[Addr.add_lit];exact H j v hv
  ·refine(Any2.slices_Insert_int_grow Tryz.lays21 g 0 l.length cap k vb 0 1 1 (l.map (Value.int .i64)) [vi x] w (by omega) (by omega) hn (by omega) (by omega) aa rfl H M X L).mono ?_;rintro e w' ⟨rfl,rfl⟩;have J:=grownCap_ge w (l.length+1) cap (Tryz.lays21_ren.t 3);have hle:=grownCap_le_maxLen w (l.length+1) cap (Tryz.lays21_ren.t 3) (by unfold maxLen;omega);obtain⟨C,hC⟩:∃C,grownCap w (l.length+1) cap (Tryz.lays21_ren.t 3)=C:=⟨_,rfl⟩;rw[hC] at J hle ⊢;obtain⟨R,hR⟩:∃R,(((l.map (Value.int .i64)).take k).toArray ++ Builtin.zeroCells (vi 0).cells (l.length+1-k) ++ Builtin.zeroCells (vi 0).cells (C-(l.length+1)))=R:=⟨_,rfl⟩;have ag:R.size=C:=by rw[←hR,Array.size_append,Array.size_append,x9,x9];simp;omega
   have af:∀j,j<k→R[j]?=some (vi (l.getD j 0)):=fun j hj=>by
    have O:j<l.length:=by omega
    rw[←hR,Array.append_assoc,Array.getElem?_append_left (by simp;omega)];simp[hj,O]
   rw[hR];have B:=World.alloc_heap_new w (.cells R (Tryz.lays21_ren.t 3));obtain⟨w0,hw0⟩:∃w0,w.alloc (.cells R (Tryz.lays21_ren.t 3))=w0:=⟨_,rfl⟩;have g0:w.grownBy w0 (some g):=by rw[←hw0];exact World.grownBy_alloc w _ _
   have an:w0.heap.size=w.heap.size+1:=by rw[←hw0];simp
   rw[hw0] at B ⊢;have ad:∀j,j<C→(w0.cell? (Z w.heap.size j)).isSome=true:=fun j hj=>by simp[World.cell?,B,ag,hj]
   obtain⟨c1,hc1,hs1⟩:=qU w.heap.size [vi x] k w0.drew R _ _ B;obtain⟨c2,hc2,hs2⟩:=qU w.heap.size ((l.map (Value.int .i64)).drop k) (k+1) (w0.drew.setCells w.heap.size k [vi x]).drew c1 _ _ hc1;have ah:((l.map (Value.int .i64)).drop k).length=l.length-k:=by simp
   have gl:∀{a b:World},a.grownBy b (some w.heap.size)→w.grownBy a (some g)→w.grownBy b (some g):=fun h1 h2=>⟨h1.os.trans h2.os,h1.tape.trans h2.tape,h1.output.trans h2.output,Nat.le_trans h2.size h1.size,fun i hi hne=>(h1.block i (Nat.lt_of_lt_of_le hi h2.size) (fun e=>by cases e;omega)).trans (h2.block i hi hne)⟩
   refine⟨_,rfl,x8 hlen hlo hc2 (by omega) J hle (fun j hj=>?_),gl qE (gl (grownBy_drew _ _) (gl qE (gl (grownBy_drew _ _) g0))),.inr rfl⟩;rw[YW l k x hk];by_cases h:j<k
   ·rw[if_pos h,World.cell?_setCells_out _ _ _ _ (Z w.heap.size j) (fun _ _=>.inl (by show j<k+1;omega))];show(w0.drew.setCells w.heap.size k [vi x]).cell? _=_;rw[World.cell?_setCells_out _ _ _ _ (Z w.heap.size j) (fun _ _=>.inl (by show j<k;omega))];show w0.cell? _=_;have:=af j h;have ac:j<R.size:=by omega
    simp[ac] at this;simp[World.cell?,B,ac,this]
   ·rw[if_neg h];by_cases e:j=k
    ·subst e;rw[if_pos rfl,World.cell?_setCells_out _ _ _ _ (Z w.heap.size j) (fun _ _=>.inl (by show j<j+1;omega))];have:=World.cell?_setCells_in w.heap.size [vi x] j w0.drew (fun i hi=>ad _ (by simp at hi;omega)) 0 (by simp);simpa using this
    ·rw[if_neg e];obtain⟨d,rfl⟩:∃d,j=k+1+d:=⟨j-k-1,by omega⟩;have:=World.cell?_setCells_in w.heap.size ((l.map (Value.int .i64)).drop k) (k+1) (w0.drew.setCells w.heap.size k [vi x]).drew (fun i hi=>World.isSome_setCells _ _ _ _ _ (ad _ (by omega))) d (by omega);rw[this];have U:k+d<l.length:=by omega
     simp[U]
theorem afP (lo:Nat)(sv:Value)(l:List Int)(k:Nat)(w:World)(h:ja w lo sv l)(hk:k<l.length)(hs:l.length≤80) :
  Calls Tryz.prog 93 #[sv,vi k,vi ((k:Int)+1)] w fun e w'=>ZS w lo sv (l.take k ++ l.drop (k+1)) e w':=by
 rcases h.shape with ⟨rfl,rfl⟩ | ⟨g,cap,rfl⟩
 ·simp at hk
 obtain⟨_,hg,hn,hm,⟨cur,hcur,hcs⟩,hx⟩:=h.cells;have hlen:(l.take k ++ l.drop (k+1)).length=l.length-1:=by simp;omega
 have r:∀j,w.frozen? (Z g j)=false:=fun j=>by simp[World.frozen?,hcur]
 have hc:=Any.slices_Delete_int_cells Tryz.lays23 g 0 l.length cap k (k+1) l w (Nat.le_refl _) hn (by unfold maxLen at hm;omega) (by omega) (by omega) (fun j hj=>by rw[Nat.zero_add];exact hx j hj) (fun j _=>by rw[Nat.zero_add];exact r j);rw[show((k+1:Nat):Int)=(k:Int)+1 by omega] at hc;refine Calls.mono hc ?_;rintro e w' ⟨rfl,q,rfl⟩;rw[List.take_length,show k+1-k=1 by omega];obtain⟨c1,hc1,hs1⟩:=qU g ((l.take k ++ l.drop (k+1) ++ List.replicate 1 0).map (Value.int .i64)) 0 (w.drewN q) cur _ _ hcur;refine⟨_,rfl,x8 hlen hg hc1 (by omega) (by omega) hm (fun j hj=>?_),yU (ab0 w q _) qE,.inl rfl⟩;have B:((l.take k ++ l.drop (k+1) ++ List.replicate 1 0).map (Value.int .i64)).length=l.length:=by simp;omega
 have:=World.cell?_setCells_in g ((l.take k ++ l.drop (k+1) ++ List.replicate 1 0).map (Value.int .i64)) 0 (w.drewN q) (fun i hi=>by
  have t:i<cur.size:=by omega
  show(w.cell? _).isSome=true
  simp[World.cell?,hcur,t]) j (by omega)
 rw[Nat.zero_add] at this;rw[this,List.getElem_map,List.getElem_append_left (by omega)];rw[List.getD_eq_getElem?_getD,List.getElem?_eq_getElem (by omega)]
 rfl
structure qc (w:World)(lo g o:Nat)(sv:Value)(l:List Int):Prop where
 cell:w.cell? (Z g o)=some sv
 fz:w.frozen? (Z g o)=false
 row:ja w lo sv l
 ne:sv.ownBlock≠some g
structure kr (w w':World)(g o:Nat)(ob:Option Nat)(sv':Value):Prop where
 os:w'.os=w.os
 tape:w'.tape=w.tape
 output:w'.output=w.output
 size:w.heap.size≤w'.heap.size
 block:∀k,k<w.heap.size→k≠g→some k≠ob→w'.heap[k]?=w.heap[k]?
 box:∀us e z,w.heap[g]?=some (.cells us e z)→w'.heap[g]?=some (.cells (us.setIfInBounds o sv') e z)
theorem Xc {w:World}{lo g o:Nat}{sv:Value}{l:List Int}(h:qc w lo g o sv l):∃us e z,w.heap[g]?=some (.cells us e z)∧us[o]?=some sv:=by
 have:=h.cell;unfold World.cell? at this;dsimp only at this;cases e:w.heap[g]? with
 | none=>rw[e] at this;cases this
 | some ob=>
  rw[e] at this;cases ob with
  | cells c t z=>exact⟨c,t,z,rfl,this⟩
  | _=>cases this
theorem qc.lt {w:World}{lo g o:Nat}{sv:Value}{l:List Int}(h:qc w lo g o sv l):g<w.heap.size:=by
 obtain⟨us,e,z,hb,_⟩:=Xc h;exact(aI hb).1
theorem ae1 {us:Array Value}{o:Nat}{sv:Value}(h:us[o]?=some sv):us.setIfInBounds o sv=us:=by
 obtain⟨r,e⟩:=aI h
 apply Array.ext_getElem?
 intro i;rw[Array.getElem?_setIfInBounds];split
 ·rename_i e2
  subst e2;rw[h];try simp[r]
 ·rfl
theorem kr.refl {w:World}{lo g o:Nat}{sv:Value}{l:List Int}(h:qc w lo g o sv l)(ob:Option Nat):kr w w g o ob sv:=by
 refine⟨rfl,rfl,rfl,Nat.le_refl _,fun _ _ _ _=>rfl,fun us e z hb=>?_⟩;obtain⟨r,e',z',hb',hu⟩:=Xc h;rw[hb] at hb';cases hb'
 rw[ae1 hu];exact hb
theorem kr.step {w w1 w2:World}{g o:Nat}{ob:Option Nat}{sv1 sv2:Value}(h:kr w w1 g o ob sv1)(hg:w1.grownBy w2 sv1.ownBlock)(hlt:g<w1.heap.size)(hne:sv1.ownBlock≠some g)(hw:sv1.ownBlock=ob∨∀b,sv1.ownBlock=some b→w.heap.size≤b) :
  kr w (w2.setCell (Z g o) sv2) g o ob sv2:=by
 have hsz:(w2.setCell (Z g o) sv2).heap.size=w2.heap.size:=by show(w2.heap.modify _ _).size=_;simp
 refine⟨hg.os.trans h.os,hg.tape.trans h.tape,hg.output.trans h.output,by rw[hsz];exact Nat.le_trans h.size hg.size,fun k hk h1 h2=>?_,fun us e z hb=>?_⟩
 ·refine(Below.heap_setCell _ _ _ k (by intro e;exact h1 e)).trans ((hg.block k (Nat.lt_of_lt_of_le hk h.size) (fun e=>?_)).trans (h.block k hk h1 h2));rcases hw with e2 | e2
  ·exact h2 (e.trans e2)
  ·have:=e2 k e.symm;omega
 ·have h1:=h.box us e z hb;have h2:=(hg.block g hlt (fun e=>hne e.symm)).trans h1;obtain⟨hl,hk⟩:=aI h2;show(w2.heap.modify g _)[g]?=_;rw[Array.getElem?_eq_getElem (by rw[Array.size_modify];exact hl),Array.getElem_modify_self,hk];show some (Obj.cells ((us.setIfInBounds o sv1).setIfInBounds o sv2) e z)=_
  congr 2
  simp
theorem kr.drewN {w w1:World}{g o:Nat}{ob:Option Nat}{sv1:Value}(h:kr w w1 g o ob sv1)(q:Nat):kr w (w1.drewN q) g o ob sv1:=⟨h.os,h.tape,h.output,h.size,h.block,h.box⟩
theorem qc.drewN {w:World}{lo g o:Nat}{sv:Value}{l:List Int}(h:qc w lo g o sv l)(q:Nat):qc (w.drewN q) lo g o sv l:=⟨h.cell,h.fz,h.row,h.ne⟩
theorem ja.putAt {w:World}{lo g:Nat}{v:Value}{l:List Int}(h:ja w lo v l)(hne:v.ownBlock≠some g)(o:Nat)(u:Value):ja (w.setCell (Z g o) u) lo v l:=by
 rcases h with ⟨h0,h1 | ⟨g',cap,cur,rfl,h2,h3,h4⟩⟩
 ·exact⟨h0,.inl h1⟩
 ·exact⟨h0,.inr ⟨g',cap,cur,rfl,h2,(Below.heap_setCell _ _ _ g' (by intro e;exact hne (by simp[Value.ownBlock];exact e))).trans h3,h4⟩⟩
theorem ada {w1 w2:World}{lo g o:Nat}{sv1 sv2:Value}{l1 l2:List Int}(h:qc w1 lo g o sv1 l1)(hg:w1.grownBy w2 sv1.ownBlock)(hr:ja w2 lo sv2 l2)(hat:sv2.ownBlock=sv1.ownBlock∨sv2.ownBlock=some w1.heap.size):(w2.cell? (Z g o)=some sv1∧w2.frozen? (Z g o)=false)∧qc (w2.setCell (Z g o) sv2) lo g o sv2 l2:=by
 have t:=h.lt;have hb:w2.heap[g]?=w1.heap[g]?:=hg.block g t (fun e=>h.ne e.symm);have hc:w2.cell? (Z g o)=some sv1:=(World.cell?_of_block (a:=(Z g o)) hb).trans h.cell;have hf:w2.frozen? (Z g o)=false:=(World.frozen?_of_block (a:=(Z g o)) hb).trans h.fz;have r:sv2.ownBlock≠some g:=by
  rcases hat with e | e
  ·rw[e];exact h.ne
  ·rw[e];intro e2;cases e2;omega
 exact⟨⟨hc,hf⟩,World.cell?_setCell_same' _ _ _ (by rw[hc];rfl),by rw[World.frozen?_setCell];exact hf,hr.putAt r _ _,r⟩
theorem qc.keep {w w':World}{lo g o:Nat}{sv:Value}{l:List Int}(h:qc w lo g o sv l)(hb:Below w.heap.size w w'):qc w' lo g o sv l :=
 ⟨Bel.keeps hb h.cell,(World.frozen?_of_block (a:=(Z g o)) (hb.block g h.lt)).trans h.fz,h.row.keep hb,h.ne⟩
theorem kr.keep {w w1 w2:World}{lo g o:Nat}{ob:Option Nat}{sv1:Value}{l:List Int}(h:kr w w1 g o ob sv1)(hb:Below w1.heap.size w1 w2)(hs:qc w1 lo g o sv1 l):kr w w2 g o ob sv1 :=
 ⟨hb.os.trans h.os,hb.tape.trans h.tape,hb.output.trans h.output,Nat.le_trans h.size hb.size,fun k hk h1 h2=>(hb.block k (Nat.lt_of_lt_of_le hk h.size)).trans (h.block k hk h1 h2),fun us e z hu=>(hb.block g hs.lt).trans (h.box us e z hu)⟩
def ahp (w:World)(lo g o:Nat)(sv:Value)(l m:List Int)(w':World):Prop := ∃sv' l',qc w' lo g o sv' l'∧Asc l'∧JZ l'∧(∀x,x∈l'↔x∈l∨x∈m)∧kr w w' g o sv.ownBlock sv'∧(sv'.ownBlock=sv.ownBlock∨∀b,sv'.ownBlock=some b→w.heap.size≤b)
def SetLess (w:World)(lo g o:Nat)(sv:Value)(l:List Int)(v:Int)(w':World):Prop := ∃sv' l',qc w' lo g o sv' l'∧Asc l'∧JZ l'∧(∀x,x∈l'↔x∈l∧x≠v)∧kr w w' g o sv.ownBlock sv'∧(sv'.ownBlock=sv.ownBlock∨∀b,sv'.ownBlock=some b→w.heap.size≤b)
theorem drop_any (lo g o:Nat)(sv:Value)(l:List Int)(v:Int)(w:World)(hs:qc w lo g o sv l)(ha:Asc l)(hr:JZ l) :
  Calls Tryz.prog 72 #[.pointer (some (Z g o)),vi v] w fun e w'=>(∃r,e=.returned r)∧SetLess w lo g o sv l v w':=by
 have HS:Hid (qc w lo g o sv l):=hs;have HA:Hid (Asc l):=ha;have HR:Hid (JZ l):=hr;have c0:=hs.cell;obtain⟨bb,HB⟩:∃b,Hid (l.contains v=b):=⟨_,rfl⟩;obtain⟨K,HK⟩:∃K,Hid (xu l v=K):=⟨_,rfl⟩;have G:=abo lo sv l v w hs.row ha (xB ha hr);rw[HB.out,HK.out] at G;have H:Hid (Calls Tryz.prog 90 #[sv,vi v] w fun e w'=>e=.returned (.tuple #[vi (K:Nat),.bool bb])∧∃q,w'=w.drewN q):=G;clear hs ha hr G;cases bb
 ·go_enter Tryz.func72,Tryz.ntmps72
  go_wp2_with (go_at_call 90;refine H.out.mono ?_;rintro e w1 ⟨rfl,q,hw1⟩)
  go_end0
  have hv:¬v∈l:=by have:=HB.out;simpa using this
  subst hw1;exact⟨⟨_,rfl⟩,sv,l,HS.out.drewN q,HA.out,HR.out,fun x=>⟨fun h=>⟨h,fun e=>hv (e▸h)⟩,fun h=>h.1⟩,(kr.refl HS.out _).drewN q,.inl rfl⟩
 ·have hv:v∈l:=by have:=HB.out;simpa using this
  have HV:Hid (v∈l):=hv;obtain⟨B,_⟩:=cut_at HA.out hv;rw[HK.out] at B;have I:Hid (K<l.length):=B;have J:K<80:=by have:=xB HA.out HR.out;omega
  clear hv B;obtain⟨l2,HL2⟩:∃l2,Hid (l.take K ++ l.drop (K+1)=l2):=⟨_,rfl⟩;go_enter Tryz.func72,Tryz.ntmps72
  go_wp2_with (first | (go_at_call 90;refine H.out.mono ?_;rintro e w1 ⟨rfl,q,hw1⟩;have S1:Hid (qc w1 lo g o sv l):=(by rw[hw1];exact HS.out.drewN q);have T1:Hid (kr w w1 g o sv.ownBlock sv):=(by rw[hw1];exact(kr.refl HS.out _).drewN q);have d0:=S1.out.cell;clear hw1 c0) | (go_at_call 93;refine(afP lo sv l K w1 S1.out.row I.out (xB HA.out HR.out)).mono ?_;rintro e w2 ⟨t,rfl,hr2,hg2,hat2⟩;rw[HL2.out] at hr2;obtain⟨⟨e1,e2⟩,hs2⟩:=ada S1.out hg2 hr2 hat2;have S2:Hid (qc (w2.setCell (Z g o) t) lo g o t l2):=hs2;have T2:Hid (kr w (w2.setCell (Z g o) t) g o sv.ownBlock t):=T1.out.step hg2 S1.out.lt S1.out.ne (.inl rfl);have A2:Hid (t.ownBlock=sv.ownBlock∨∀b,t.ownBlock=some b→w.heap.size≤b):=(by rcases hat2 with e | e;(exact .inl e);(exact .inr (fun b hb=>by rw[e] at hb;cases hb;exact T1.out.size)));clear hs2 hg2 hat2 d0;rcases hr2.shape with ⟨rfl,_⟩ | ⟨g2,cap2,rfl⟩ <;> clear hr2))
  all_goals (go_end0;obtain⟨o1,o2⟩:=cut_out HA.out HV.out;rw[HK.out,HL2.out] at o1 o2;exact⟨⟨_,rfl⟩,_,l2,S2.out,o1,fun x hx=>HR.out x ((o2 x).1 hx).1,o2,T2.out,A2.out⟩)
theorem JZ.add {l:List Int}(h:JZ l){v:Int}(hv:0≤v∧v<80){l2:List Int}(he:∀x,x∈l2↔x∈l∨x=v):JZ l2:=fun x hx=>by
 rcases(he x).1 hx with h1 | h1
 ·exact h x h1
 ·rw[h1];exact hv
def AddUp (w wr:World)(lo g o:Nat)(sv:Value)(l m:List Int)(k:Nat):Prop:=ahp w lo g o sv l (m.take k) wr
theorem Xd {m:List Int}{k:Nat}(h:k<m.length)(x:Int):x∈m.take (k+1)↔x∈m.take k∨x=m.getD k 0:=by
 rw[List.take_add_one,List.getElem?_eq_getElem h,List.mem_append,List.getD_eq_getElem?_getD,List.getElem?_eq_getElem h];simp
theorem ad4 (lo g o:Nat)(sv av:Value)(l m:List Int)(w:World)(hs:qc w lo g o sv l)(ha:Asc l)(hr:JZ l)(hlo:lo≤w.heap.size)(hm:jV w av m)(hmr:JZ m)(hav:∀b,av.ownBlock=some b→b<w.heap.size∧b≠g∧some b≠sv.ownBlock) :
  Calls Tryz.prog 70 #[.pointer (some (Z g o)),av] w fun e w'=>(∃r,e=.returned r)∧ahp w lo g o sv l m w':=by
 have HS:Hid (qc w lo g o sv l):=hs;have HA:Hid (Asc l):=ha;have HR:Hid (JZ l):=hr;have ac:Hid (JZ m):=hmr;have HM:Hid (jV w av m):=hm;have U:Hid (∀b,av.ownBlock=some b→b<w.heap.size∧b≠g∧some b≠sv.ownBlock):=hav;have X:Hid (lo≤w.heap.size):=hlo;obtain⟨aa,acap,rfl,hn,-⟩:=hm;obtain⟨n,HN⟩:∃n,Hid (m.length=n):=⟨_,rfl⟩;rw[HN.out] at hn;clear hs ha hr hmr hav hlo;have t:(#[Value.pointer (some (Z g o)),Value.slice aa m.length acap]:Array Value) = #[.pointer (some (Z g o)),.slice aa n acap]:=by rw[HN.out]
 rw[t];clear t;go_enter Tryz.func70,Tryz.ntmps70
 go_wp2_with fail
 go_loopw [10] (fun i wr=>∃k:Nat,k≤n∧i=vi k∧AddUp w wr lo g o sv l m k) (fun i _=>n-(intOf i).toNat)
 case atStart=>exact⟨0,Nat.zero_le _,rfl,sv,l,HS.out,HA.out,HR.out,by simp,kr.refl HS.out _,.inl rfl⟩
 case round=>
  obtain⟨wq,hwq⟩:∃x,x=wr:=⟨_,rfl⟩;subst hwq;obtain⟨k,hk,rfl,svk,lk,hsk,hak,hrk,hmk,htk,howk⟩:=hrel;have SK:Hid (qc wq lo g o svk lk):=hsk;have AK:Hid (Asc lk):=hak;have RK:Hid (JZ lk):=hrk;have MK:Hid (∀x,x∈lk↔x∈l∨x∈m.take k):=hmk;have TK:Hid (kr w wq g o sv.ownBlock svk):=htk;have OK:Hid (svk.ownBlock=sv.ownBlock∨∀b,svk.ownBlock=some b→w.heap.size≤b):=howk;clear hsk hak hrk hmk htk howk;by_cases af:(k:Int)<(n:Int)
  ·have G:k<m.length:=by have:=HN.out;omega
   obtain⟨x,HX⟩:∃x,Hid (m.getD k 0=x):=⟨_,rfl⟩;obtain⟨ab,aoff,rfl,a0⟩:∃b off,aa=some (Z b off)∧wq.cell? (Z b (off+k))=some (vi x):=by
    obtain⟨a',cap',e,_,hc⟩:=HM.out;obtain⟨b,off,rfl,hc2⟩:=hc (by omega);simp at e;obtain⟨e,_⟩:=e;refine⟨b,off,e,?_⟩;obtain⟨h1,h2,h3⟩:=U.out b (by rw[e];rfl);rw[World.cell?_of_block (w:=w) (w':=wq) (a:=(Z b (off+k))) (TK.out.block b h1 h2 h3),hc2 k G,HX.out]
   have O:0≤x∧x<80:=ac.out x (by rw[←HX.out,List.getD_eq_getElem?_getD,List.getElem?_eq_getElem G];exact List.getElem_mem G);have ad:Hid (0≤x∧x<80):=O;have I:Hid (k<m.length):=G;clear G O;have c0:=SK.out.cell;obtain⟨bb,HB⟩:∃b,Hid (lk.contains x=b):=⟨_,rfl⟩;obtain⟨K,HK⟩:∃K,Hid (xu lk x=K):=⟨_,rfl⟩;have H:=abo lo svk lk x wq SK.out.row AK.out (xB AK.out RK.out);rw[HB.out,HK.out] at H;have J:Hid (Calls Tryz.prog 90 #[svk,vi x] wq fun e w'=>e=.returned (.tuple #[vi (K:Nat),.bool bb])∧∃q,w'=wq.drewN q):=H;clear H;cases bb
   ·have hv:¬x∈lk:=by have:=HB.out;simpa using this
    have HV:Hid (¬x∈lk):=hv;have L:K≤lk.length:=by rw[←HK.out];exact aeV _ _
    have V:Hid (K≤lk.length):=L;have ae:K≤80:=by have:=xB AK.out RK.out;omega
    clear hv L;obtain⟨l2,HL2⟩:∃l2,Hid (lk.take K ++ x::lk.drop K=l2):=⟨_,rfl⟩;go_wp2_with (first | (go_at_call 90;refine J.out.mono ?_;rintro e w1 ⟨rfl,q,hw1⟩;have S1:Hid (qc w1 lo g o svk lk):=(by rw[hw1];exact SK.out.drewN q);have T1:Hid (kr w w1 g o sv.ownBlock svk):=(by rw[hw1];exact TK.out.drewN q);have d0:=S1.out.cell;clear hw1 c0) | (go_at_call 91;obtain⟨w3,hw3⟩:∃w3,w1.alloc (.cells #[vi x] 3)=w3:=⟨_,rfl⟩;have M:w3.heap[w1.heap.size]?=some (.cells #[vi x] 3 (0,0)):=(by rw[←hw3];exact World.alloc_heap_new w1 _);have B3:Hid (Below w1.heap.size w1 w3):=(by rw[←hw3];exact Bel.alloc _ _);have S3:Hid (qc w3 lo g o svk lk):=S1.out.keep B3.out;have T3:Hid (kr w w3 g o sv.ownBlock svk):=T1.out.keep B3.out S1.out;rw[hw3];refine(afO lo svk lk K x w1.heap.size w3 S3.out.row V.out (xB AK.out RK.out) (by have:=X.out;have:=T3.out.size;omega) M (fun e=>by have:=S1.out.row.lt _ e;omega)).mono ?_;rintro e w2 ⟨B,rfl,hr2,hg2,hat2⟩;rw[HL2.out] at hr2;obtain⟨⟨e1,e2⟩,hs2⟩:=ada S3.out hg2 hr2 hat2;have S2:Hid (qc (w2.setCell (Z g o) B) lo g o B l2):=hs2;have T2:Hid (kr w (w2.setCell (Z g o) B) g o sv.ownBlock B):=T3.out.step hg2 S3.out.lt S3.out.ne OK.out;have A2:Hid (B.ownBlock=sv.ownBlock∨∀b,B.ownBlock=some b→w.heap.size≤b):=(by rcases hat2 with e | e;(rw[e];exact OK.out);(exact .inr (fun b hb=>by rw[e] at hb;cases hb;exact T3.out.size)));clear hs2 hg2 hat2 d0 M hw3;rcases hr2.shape with ⟨rfl,_⟩ | ⟨g2,cap2,rfl⟩ <;> clear hr2))
    all_goals (
     go_roundw
     case rel=>
      have o1:=put_asc AK.out HV.out;have o2:=put_mem lk K x;rw[HK.out,HL2.out] at o1;rw[HL2.out] at o2;exact⟨k+1,by omega,by simp,_,l2,S2.out,o1,RK.out.add ad.out o2,fun y=>by rw[o2 y,MK.out y,Xd I.out,HX.out];exact or_assoc,T2.out,A2.out⟩
     case measure=>simp[intOf];omega)
   ·have hv:x∈lk:=by have:=HB.out;simpa using this
    have HV:Hid (x∈lk):=hv;clear hv;go_wp2_with (go_at_call 90;refine J.out.mono ?_;rintro e w1 ⟨rfl,q,hw1⟩;have S1:Hid (qc w1 lo g o svk lk):=(by rw[hw1];exact SK.out.drewN q);have T1:Hid (kr w w1 g o sv.ownBlock svk):=(by rw[hw1];exact TK.out.drewN q);clear hw1 c0)
    go_roundw
    case rel=>
     refine⟨k+1,by omega,by simp,_,lk,S1.out,AK.out,RK.out,fun y=>?_,T1.out,OK.out⟩;rw[Xd I.out,HX.out,←or_assoc,←MK.out y];exact⟨.inl,fun h=>h.elim id (fun e=>e▸HV.out)⟩
    case measure=>simp[intOf];omega
  ·obtain rfl:k=n:=by omega
   go_wp2_with fail
   go_end0
   refine⟨⟨_,rfl⟩,svk,lk,SK.out,AK.out,RK.out,fun y=>?_,TK.out,OK.out⟩;rw[MK.out y,List.take_of_length_le (by have:=HN.out;omega)]
theorem adb : (Tryz.prog.info? 3).map (fun i=>(i.zero,i.size,i.bytes))=some (some (vi 0),1,8):=by kernel_rfl
theorem ahq (g lo:Nat)(v:Value)(l:List Int)(w:World)(h:jV w v l)(hn:l.length≤1048576)(hg:ja w lo (sq g 0 0 0) [])(hlo:lo≤w.heap.size)(ty:TypeId) :
  ∃v' w',(Builtin.append_ #[30,30] ty #[sq g 0 0 0,v]).run Tryz.prog w=.ok v' w'∧(∃a' cap',v'=.slice a' l.length cap')∧ja w' lo v' l∧Below w.heap.size w w':=by
 obtain⟨a,cap,rfl,hm,hc⟩:=h;obtain⟨i0,hi,hz0,hz1,hz2⟩:=info_parts adb;by_cases h0:l.length=0
 ·refine⟨sq g 0 0 0,w,?_,⟨_,_,by rw[h0]⟩,?_,Below.refl _ _⟩
  ·rw[h0];cases a with
   | none=>simp[Builtin.append_,run_underlying Tryz.underlying30,sizeOf,typeInfo,hi,Builtin.lenOf,Builtin.firstCells,go_sem]
   | some ad=>simp[Builtin.append_,run_underlying Tryz.underlying30,sizeOf,typeInfo,hi,Builtin.lenOf,Builtin.firstCells,go_sem]
  ·rw[List.length_eq_zero_iff.1 h0];exact hg
 ·have r:2000000≤maxLen:=by decide
  obtain⟨b,off,rfl,hE⟩:=hc (by omega)
  obtain⟨v',w',hrun,hown,hgr⟩:=run_append_arg_grows (P:=Tryz.prog) w 30 ty 3 i0 (vi 0) 1 8 Tryz.underlying30 hi hz0 hz1 hz2 rfl (by decide) (Z g 0) 0 0 [] rfl (fun j u h=>by simp at h) (Z b off) l.length cap (l.map (fun x=>vi x)) (by simp) (fun j u hu=>by
   have hj:j<l.length:=by
    rcases Nat.lt_or_ge j l.length with h | h
    ·exact h
    ·rw[List.getElem?_eq_none (by simpa using h)] at hu;cases hu
   rw[Addr.add_lit,hE j hj,←hu]
   simp[hj]) (by omega) (by omega) (by omega)
  rw[Nat.zero_add,List.nil_append] at hown;have hb:Below w.heap.size w w':=(Below.refl w.heap.size w).grown hgr (Nat.le_refl _) (fun j ej=>by cases ej);have hO:ja w' lo v' l:=ja.low (show ja w' w.heap.size v' l from hown) hlo;refine⟨v',w',hrun,?_,hO,hb⟩;rcases hO.shape with ⟨rfl,rfl⟩ | ⟨g2,c2,rfl⟩
  ·simp at h0
  ·exact⟨_,_,rfl⟩
def GivesSet (w:World)(l:List Int)(n:Nat)(e:Ending)(w':World):Prop := ∃a c,e=.returned (.agg #[.slice a n c])∧ja w' w.heap.size (.slice a n c) l∧Below w.heap.size w w'
theorem copy_any (sa:Option Addr)(n scap:Nat)(l:List Int)(w:World)(h:jV w (.slice sa n scap) l)(hl:l.length=n)(hn:l.length≤80) :
  Calls Tryz.prog 69 #[.agg #[.slice sa n scap]] w fun e w'=>GivesSet w l n e w':=by
 have B:Hid (jV w (.slice sa n scap) l):=h;have HN:Hid (l.length=n):=hl;have r:Hid (l.length≤80):=hn;clear h hl hn;obtain⟨wA,hwA⟩:∃wA,(w.alloc (.cells #[.slice sa n scap] 74)).alloc (.cells #[.slice none 0 0] 74)=wA:=⟨_,rfl⟩;have BA:Hid (Below w.heap.size w wA):=by rw[←hwA];repeat (first | exact Below.refl _ _ | apply Below.drew | refine Below.alloc ?_ (by simp <;> omega) _ | refine Below.setCell ?_ (by simp <;> omega) _)
 have hsz:wA.heap.size=w.heap.size+2:=by rw[←hwA];simp
 have a0:wA.cell? (Z w.heap.size 0)=some (.slice sa n scap):=by rw[←hwA];simp[go_sem]
 have a1:wA.cell? (Z (w.heap.size+1) 0)=some (.slice none 0 0):=by rw[←hwA];simp[go_sem]
 have a2:wA.frozen? (Z (w.heap.size+1) 0)=false:=by rw[←hwA];simp[go_sem]
 obtain⟨wB,hwB⟩:∃wB,wA.alloc (.cells #[] 3)=wB:=⟨_,rfl⟩;have BB:Hid (Below wA.heap.size wA wB):=by rw[←hwB];exact Bel.alloc _ _
 have OB:ja wB w.heap.size (sq wA.heap.size 0 0 0) []:=by rw[←hwB];exact ja.low (JT wA) (by omega)
 have H:wB.heap.size=w.heap.size+3:=by rw[←hwB];simp;omega
 have I3:jV wB (.slice sa n scap) l:=(B.out.keep BA.out).keep BB.out;obtain⟨v',wC,hrun,⟨a',c',rfl⟩,hO,BC⟩:=ahq wA.heap.size w.heap.size (.slice sa n scap) l wB I3 (by have:=r.out;omega) OB (by omega) 30;rw[HN.out] at hO hrun;rw[hsz] at hrun;have HO:Hid (ja wC w.heap.size (.slice a' n c') l):=hO;have t:Hid (Below wB.heap.size wB wC):=BC;have c0:=Bel.keeps BC (Bel.keeps BB.out a1);have I:wC.frozen? (Z (w.heap.size+1) 0)=false:=by
  rw[World.frozen?_of_block (w:=wB) (a:=(Z (w.heap.size+1) 0)) (BC.block _ (by simp;omega)),World.frozen?_of_block (w:=wA) (a:=(Z (w.heap.size+1) 0)) (BB.out.block _ (by simp;omega))];exact a2
 have b0:=Bel.keeps BB.out a0;clear OB I3 BC hO;go_enter Tryz.func69,Tryz.ntmps69
 go_wp2_with (at_builtin;refine Lib.wpList_append_run _ rfl _ _ _ _ rfl _ _ rfl rfl _ _ hrun ?_)
 have rc:(wC.setCell (Z (w.heap.size+1) 0) (.slice a' n c')).cell? (Z (w.heap.size+1) 0)=some (.slice a' n c'):=World.cell?_setCell_same' _ _ _ (by rw[c0];rfl);have G:(Value.slice a' n c').ownBlock≠some (w.heap.size+1):=fun e=>by
  have hb:wC.heap[w.heap.size+1]?=some (.cells #[.slice none 0 0] 74 (0,0)):=by
   rw[t.out.block _ (by omega),BB.out.block _ (by omega),←hwA];have:=World.alloc_heap_new (w.alloc (.cells #[.slice sa n scap] 74)) (.cells #[.slice none 0 0] 74)
   rwa [World.size_alloc] at this
  rcases HO.out.2 with ⟨h0,_⟩ | ⟨g,cap,cur,h0,_,hg,_⟩
  ·rw[h0] at e;simp[Value.ownBlock] at e
  ·rw[h0] at e;simp[Value.ownBlock] at e;rw[e,hb] at hg;simp at hg
 refine bodyPost_ret (v:=.agg #[.slice a' n c']) (by simp[results,Tryz.results69,go_sem,rc]) rfl ?_;exact⟨_,_,rfl,HO.out.putAt G _ _,(Bel.after BA.out (Bel.after BB.out t.out)).setCell (p:=(Z (w.heap.size+1) 0)) (by simp) _⟩
end Go.Proofs.YtkbhbekfniadhaaGreat
