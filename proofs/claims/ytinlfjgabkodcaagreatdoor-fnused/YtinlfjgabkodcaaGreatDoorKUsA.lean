/- Which values are used: as mathematics, and as rounds over the blocks. What is known to be used, in a map whose keys are structs. What is used, of the program: the parts of a round. -/
import Derived.Test.YtinlfjgabkodcaaGreatDoorKMake
import Derived.Test.YtinlfjgabkodcaaGreatDoorKSh1
import Derived.Test.YtinlfjgabkodcaaGreatDoorKDrA
import Derived.Test.YtinlfjgabkodcaaGreatDoorKSeq
import Derived.DeepKeys4
import Derived.Maps.OwnSet
import Derived.Maps.Views
import Derived.Maps.OwnOps
import Derived.Test.YtinlfjgabkodcaaGreatDoorKEdge
import Derived.Test.YtinlfjgabkodcaaGreatDoorKLast
import Derived.Test.YtinlfjgabkodcaaGreatDoorKGraph
namespace Go.Proofs.YtinlfjgabkodcaaGreatDoor
open Go.ChangeShapes Go.WideShapes Go.ChangeAt Go.RowKit
set_option linter.unusedVariables false
def Takes (y:InsD)(C:Int→Prop):Prop:=(21≤y.op∧y.op≤23)∨(1≤y.op∧y.op≤10∧C y.d)
structure ClosedIn (x:BlockD)(C:Int→Prop):Prop where
 ins:∀y∈x.list,Takes y C→∀v∈usesV y.op y.a y.b,C v
 phi:∀p∈x.phis,C p.d→∀a∈p.arms,C a.v
 fin:∀v∈endsV x.term.k x.term.a,C v
def ClosedF (F:FnD)(C:Int→Prop):Prop := ∀x∈F.blocks,ClosedIn x C
def UsedV (F:FnD)(v:Int):Prop := ∀C:Int→Prop,ClosedF F C→C v
theorem Takes.mono {y:InsD}{C D:Int→Prop}(h:Takes y C)(hs:∀v,C v→D v):Takes y D:=by
 rcases h with h | ⟨h1,h2,h3⟩
 ·exact .inl h
 ·exact .inr ⟨h1,h2,hs _ h3⟩
theorem used_closed (F:FnD):ClosedF F (UsedV F):=fun x hx=>
 ⟨fun y hy ht v hv C hC=>(hC x hx).ins y hy (ht.mono (fun u hu=>hu C hC)) v hv,fun p hp hd a ha C hC=>(hC x hx).phi p hp (hd C hC) a ha,fun v hv C hC=>(hC x hx).fin v hv⟩
theorem used_least {F:FnD}{U:Int→Prop}(h:ClosedF F U)(hs:∀v,U v→UsedV F v)(v:Int):U v↔UsedV F v:=⟨hs v,fun hu=>hu U h⟩
open Classical in
noncomputable def usedOf (F:FnD):List Bool:=(List.range F.values.toNat).map (fun v:Nat=>decide (UsedV F (v:Int)))
open Classical in
noncomputable def usedAll (F:FnD):List Bool:=if checkOf F=0 then usedOf F else []
def addAll (U vs:List Int):List Int:=vs.foldl (fun U v=>if v∈U then U else U ++ [v]) U
theorem addAll_cons (U:List Int)(v:Int)(vs:List Int):addAll U (v :: vs)=addAll (if v∈U then U else U ++ [v]) vs:=rfl
theorem addAll_app (U vs ws:List Int):addAll U (vs ++ ws)=addAll (addAll U vs) ws:=by simp[addAll]
structure Grew (F:FnD)(U U':List Int):Prop where
 more:∃A,U'=U ++ A
 nd:U.Nodup→U'.Nodup
 small:(∀v∈U,0≤v∧v<80)→∀v∈U',0≤v∧v<80
 sound:(∀v∈U,UsedV F v)→∀v∈U',UsedV F v
theorem Grew.refl (F:FnD)(U:List Int):Grew F U U:=⟨⟨[],by simp⟩,id,id,id⟩
theorem Grew.trans {F:FnD}{U V W:List Int}(h:Grew F U V)(k:Grew F V W):Grew F U W:=by
 obtain⟨A,hA⟩:=h.more
 obtain⟨B,hB⟩:=k.more
 exact⟨⟨A ++ B,by rw[hB,hA,List.append_assoc]⟩,fun x=>k.nd (h.nd x),fun x=>k.small (h.small x),fun x=>k.sound (h.sound x)⟩
theorem Grew.sub {F:FnD}{U V:List Int}(h:Grew F U V):∀v∈U,v∈V:=fun v hv=>by
 obtain⟨A,rfl⟩:=h.more
 simp[hv]
theorem Grew.one {F:FnD}{U:List Int}{v:Int}(hv:0≤v∧v<80)(hu:(∀v∈U,UsedV F v)→UsedV F v):Grew F U (if v∈U then U else U ++ [v]):=by
 split
 ·exact Grew.refl F U
 ·rename_i hn
  refine⟨⟨[v],rfl⟩,fun h=>?_,fun h x hx=>?_,fun h x hx=>?_⟩
  ·rw[List.nodup_append]
   refine⟨h,by simp,fun a ha b hb e=>?_⟩
   simp at hb
   subst hb
   subst e
   exact hn ha
  ·rcases List.mem_append.1 hx with hx | hx
   ·exact h x hx
   ·simp at hx;rw[hx];exact hv
  ·rcases List.mem_append.1 hx with hx | hx
   ·exact h x hx
   ·simp at hx;rw[hx];exact hu h
theorem grew_addAll {F:FnD}:∀(vs U:List Int),(∀v∈vs,0≤v∧v<80)→((∀v∈U,UsedV F v)→∀v∈vs,UsedV F v)→Grew F U (addAll U vs)
 | [],U,_,_=>Grew.refl F U
 | v :: vs,U,hs,hu=>by
  rw[addAll_cons]
  have h1:Grew F U (if v∈U then U else U ++ [v]):=Grew.one (hs v (by simp)) (fun h=>hu h v (by simp))
  exact h1.trans (grew_addAll vs _ (fun x hx=>hs x (by simp[hx])) (fun h x hx=>hu (fun y hy=>h y (h1.sub y hy)) x (by simp[hx])))
theorem addAll_has : ∀(vs U:List Int),(∀v∈U,v∈addAll U vs)∧∀v∈vs,v∈addAll U vs
 | [],U=>⟨fun v h=>h,fun v h=>by cases h⟩
 | w :: vs,U=>by
  rw[addAll_cons]
  obtain⟨h1,h2⟩:=addAll_has vs (if w∈U then U else U ++ [w])
  refine⟨fun v hv=>h1 v ?_,fun v hv=>?_⟩
  ·split
   ·exact hv
   ·simp[hv]
  ·rcases List.mem_cons.1 hv with e | hv
   ·subst e
    refine h1 v ?_
    split
    ·assumption
    ·simp
   ·exact h2 v hv
def phiStep (U:List Int)(p:PhiD):List Int:=if p.d∈U then addAll U (p.arms.map (fun a=>a.v)) else U
def stayB (U:List Int)(y:InsD):Bool:=if (1≤y.op∧y.op≤10)∨y.op=20 then decide (y.d∈U) else true
def insStep (U:List Int)(y:InsD):List Int:=if stayB U y then addAll U (usesV y.op y.a y.b) else U
def phisTake (U:List Int)(l:List PhiD):List Int:=l.foldl phiStep U
def insTake (U:List Int)(l:List InsD):List Int:=l.foldl insStep U
def passB (U:List Int)(x:BlockD):List Int:=addAll (insTake (phisTake U x.phis) x.list) (endsV x.term.k x.term.a)
def passN (F:FnD)(U:List Int)(b:Int):List Int:=match F.blocks[b.toNat]? with | some x=>passB U x | none=>U
def roundOf (F:FnD)(order:List Int)(U:List Int):List Int:=order.foldl (passN F) U
theorem check_well {F:FnD}(h:checkOf F=0):FnShape F∧¬CopyIn F∧AllReached F:=by
 unfold checkOf at h
 split at h
 ·cases h
 ·rename_i h1
  split at h
  ·cases h
  ·rename_i h2
   exact⟨Classical.not_not.1 (fun e=>h1 (.inl e)),fun e=>h1 (.inr e),Classical.not_not.1 h2⟩
theorem valIn_iff2 {n v:Int}:valIn n v=true↔0≤v∧v<n:=by simp[valIn]
theorem shape_uses {V:Int}{y:InsD}(h:placeOkV V y=true):(∀v∈usesV y.op y.a y.b,0≤v∧v<V)∧((1≤y.op∧y.op≤10)∨y.op=20∨y.op=21∨y.op=25∨y.op=24→0≤y.d∧y.d<V)∧((1≤y.op∧y.op≤10)∨(20≤y.op∧y.op≤25)):=by
 unfold placeOkV insOkV at h
 have hv:=@valIn_iff2 V
 split at h
 ·rename_i h1
  simp only[Bool.and_eq_true,hv] at h
  refine⟨fun v hx=>?_,fun _=>h.1.1.1,.inl h1⟩
  simp[usesV,h1] at hx
  rcases hx with rfl | rfl
  ·exact h.1.1.2
  ·exact h.1.2
 ·rename_i h1
  split at h
  ·rename_i h2
   simp only[Bool.and_eq_true,hv] at h
   refine⟨fun v hx=>?_,fun _=>h.1.1,.inr (by omega)⟩
   simp[usesV,h2] at hx
  ·split at h
   ·rename_i h2 h3
    simp only[Bool.and_eq_true,hv] at h
    refine⟨fun v hx=>?_,fun _=>h.1.1.1,.inr (by omega)⟩
    have:usesV y.op y.a y.b = [y.a]:=by rcases h3 with h3 | h3 <;> simp[usesV,h3]
    rw[this] at hx
    simp at hx
    rw[hx]
    exact h.1.1.2
   ·split at h
    ·rename_i h2 h3 h4
     simp only[Bool.and_eq_true,hv] at h
     refine⟨fun v hx=>?_,fun e=>absurd e (by omega),.inr (by omega)⟩
     simp[usesV,h4] at hx
     rcases hx with rfl | rfl
     ·exact h.1.1.1
     ·exact h.1.1.2
    ·split at h
     ·rename_i h2 h3 h4 h5
      simp only[Bool.and_eq_true,hv] at h
      refine⟨fun v hx=>?_,fun e=>absurd e (by omega),.inr (by omega)⟩
      simp[usesV,h5] at hx
      rw[hx]
      exact h.1.1.1
     ·split at h
      ·rename_i h2 h3 h4 h5 h6
       simp only[Bool.and_eq_true,hv] at h
       refine⟨fun v hx=>?_,fun _=>h.1.1.1,.inr (by omega)⟩
       simp[usesV,h6] at hx
      ·cases h
theorem shape_ends {B V:Int}{x:BlockD}(h:termOkV B V x.term.k x.term.a x.term.t x.term.e=true):∀v∈endsV x.term.k x.term.a,0≤v∧v<V:=by
 unfold termOkV at h
 have hv:=@valIn_iff2 V
 intro v hx
 split at h
 ·rename_i h1
  simp[endsV,h1] at hx
 ·split at h
  ·rename_i h1 h2
   simp only[Bool.and_eq_true] at h
   simp[endsV,h2] at hx
   rw[hx]
   exact hv.1 h.2
  ·split at h
   ·rename_i h1 h2 h3
    simp only[Bool.and_eq_true] at h
    simp[endsV,h3] at hx
    rw[hx]
    exact hv.1 h.1.1
   ·cases h
theorem shape_arms {B V:Int}{p:PhiD}(h:PhiOk B V p):(0≤p.d∧p.d<V)∧∀a∈p.arms,0≤a.v∧a.v<V:=by
 refine⟨valIn_iff2.1 h.1,fun a ha=>?_⟩
 obtain⟨j,hj⟩:=List.mem_iff_getElem?.1 ha
 exact valIn_iff2.1 (h.2.2 j a (List.getElem?_eq_some_iff.1 hj).1 hj).2.1
structure WellB (V:Int)(x:BlockD):Prop where
 v80:V≤80
 phis:∀p∈x.phis,(0≤p.d∧p.d<V)∧∀a∈p.arms,0≤a.v∧a.v<V
 ins:∀y∈x.list,(∀v∈usesV y.op y.a y.b,0≤v∧v<V)∧((1≤y.op∧y.op≤10)∨y.op=20∨y.op=21∨y.op=25∨y.op=24→0≤y.d∧y.d<V)∧((1≤y.op∧y.op≤10)∨(20≤y.op∧y.op≤25))
 nocopy:∀y∈x.list,y.op≠25
 fin:∀v∈endsV x.term.k x.term.a,0≤v∧v<V
theorem well_block {F:FnD}(hs:FnShape F)(hc:¬CopyIn F){x:BlockD}(hx:x∈F.blocks):WellB F.values x:=by
 obtain⟨b,hb⟩:=List.mem_iff_getElem?.1 hx
 obtain⟨_,_,h1,h2,h3⟩:=hs.2.2.2.2 b x hb
 refine⟨hs.2.2.2.1,fun p hp=>?_,fun y hy=>?_,fun y hy e=>?_,shape_ends h3⟩
 ·obtain⟨j,hj⟩:=List.mem_iff_getElem?.1 hp
  exact shape_arms (h1 j p hj)
 ·obtain⟨j,hj⟩:=List.mem_iff_getElem?.1 hy
  exact shape_uses (h2 j y hj)
 ·obtain⟨j,hj⟩:=List.mem_iff_getElem?.1 hy
  exact hc ⟨b,x,j,y,hb,hj,e⟩
theorem WellB.low {V:Int}{x:BlockD}(h:WellB V x){v:Int}(hv:0≤v∧v<V):0≤v∧v<80:=by have:=h.v80;omega
theorem grew_phi {F:FnD}{x:BlockD}(hx:x∈F.blocks)(hw:WellB F.values x){p:PhiD}(hp:p∈x.phis)(U:List Int):Grew F U (phiStep U p):=by
 unfold phiStep
 split
 ·rename_i hd
  refine grew_addAll _ U (fun v hv=>?_) (fun h v hv=>?_)
  ·obtain⟨a,ha,rfl⟩:=List.mem_map.1 hv
   exact hw.low ((hw.phis p hp).2 a ha)
  ·obtain⟨a,ha,rfl⟩:=List.mem_map.1 hv
   exact(used_closed F x hx).phi p hp (h _ hd) a ha
 ·exact Grew.refl F U
theorem stay_takes {U:List Int}{y:InsD}(h:stayB U y=true)(hu:usesV y.op y.a y.b≠[])(hc:y.op≠25):Takes y (fun v=>v∈U):=by
 unfold stayB at h
 unfold Takes
 split at h
 ·rename_i h1
  rcases h1 with h1 | h1
  ·exact .inr ⟨h1.1,h1.2,by simpa using h⟩
  ·simp[usesV,h1] at hu
 ·rename_i h1
  unfold usesV at hu
  split at hu
  ·rename_i h2
   exact .inl (by omega)
  ·split at hu
   ·rename_i h2 h3
    exact .inl (by omega)
   ·exact absurd rfl hu
theorem takes_stay {U:List Int}{y:InsD}(h:Takes y (fun v=>v∈U)):stayB U y=true:=by
 unfold stayB
 split
 ·rcases h with h | h
  ·omega
  ·simpa using h.2.2
 ·rfl
theorem grew_ins {F:FnD}{x:BlockD}(hx:x∈F.blocks)(hw:WellB F.values x){y:InsD}(hy:y∈x.list)(U:List Int):Grew F U (insStep U y):=by
 unfold insStep
 split
 ·rename_i hs
  refine grew_addAll _ U (fun v hv=>hw.low ((hw.ins y hy).1 v hv)) (fun h v hv=>?_)
  have ht:=stay_takes hs (fun e=>by rw[e] at hv;cases hv) (hw.nocopy y hy)
  exact(used_closed F x hx).ins y hy (ht.mono h) v hv
 ·exact Grew.refl F U
theorem grew_phis {F:FnD}{x:BlockD}(hx:x∈F.blocks)(hw:WellB F.values x):∀(l:List PhiD),(∀p∈l,p∈x.phis)→∀U,Grew F U (phisTake U l)
 | [],_,U=>Grew.refl F U
 | p :: l,h,U=>(grew_phi hx hw (h p (by simp)) U).trans (grew_phis hx hw l (fun q hq=>h q (by simp[hq])) _)
theorem grew_list {F:FnD}{x:BlockD}(hx:x∈F.blocks)(hw:WellB F.values x):∀(l:List InsD),(∀p∈l,p∈x.list)→∀U,Grew F U (insTake U l)
 | [],_,U=>Grew.refl F U
 | p :: l,h,U=>(grew_ins hx hw (h p (by simp)) U).trans (grew_list hx hw l (fun q hq=>h q (by simp[hq])) _)
theorem grew_fin {F:FnD}{x:BlockD}(hx:x∈F.blocks)(hw:WellB F.values x)(U:List Int):Grew F U (addAll U (endsV x.term.k x.term.a)) :=
 grew_addAll _ U (fun v hv=>hw.low (hw.fin v hv)) (fun _ v hv=>(used_closed F x hx).fin v hv)
theorem grew_pass {F:FnD}{x:BlockD}(hx:x∈F.blocks)(hw:WellB F.values x)(U:List Int):Grew F U (passB U x) :=
 ((grew_phis hx hw x.phis (fun _ h=>h) U).trans (grew_list hx hw x.list (fun _ h=>h) _)).trans (grew_fin hx hw _)
theorem phis_done {F:FnD}{x:BlockD}(hx:x∈F.blocks)(hw:WellB F.values x):∀(l:List PhiD),(∀p∈l,p∈x.phis)→∀U,∀p∈l,p.d∈U→∀a∈p.arms,a.v∈phisTake U l
 | [],_,U,p,hp,_,_,_=>by cases hp
 | q :: l,h,U,p,hp,hd,a,ha=>by
  show a.v∈phisTake (phiStep U q) l
  rcases List.mem_cons.1 hp with e | hp
  ·subst e
   refine(grew_phis hx hw l (fun r hr=>h r (by simp[hr])) _).sub _ ?_
   unfold phiStep
   rw[if_pos hd]
   exact(addAll_has _ _).2 _ (List.mem_map_of_mem ha)
  ·exact phis_done hx hw l (fun r hr=>h r (by simp[hr])) _ p hp ((grew_phi hx hw (h q (by simp)) U).sub _ hd) a ha
theorem list_done {F:FnD}{x:BlockD}(hx:x∈F.blocks)(hw:WellB F.values x):∀(l:List InsD),(∀p∈l,p∈x.list)→∀U,∀y∈l,Takes y (fun v=>v∈U)→∀v∈usesV y.op y.a y.b,v∈insTake U l
 | [],_,U,p,hp,_,_,_=>by cases hp
 | q :: l,h,U,y,hp,hd,v,hv=>by
  show v∈insTake (insStep U q) l
  rcases List.mem_cons.1 hp with e | hp
  ·subst e
   refine(grew_list hx hw l (fun r hr=>h r (by simp[hr])) _).sub _ ?_
   unfold insStep
   rw[if_pos (takes_stay hd)]
   exact(addAll_has _ _).2 _ hv
  ·exact list_done hx hw l (fun r hr=>h r (by simp[hr])) _ y hp (hd.mono (fun u hu=>(grew_ins hx hw (h q (by simp)) U).sub _ hu)) v hv
structure Done (x:BlockD)(U U':List Int):Prop where
 phi:∀p∈x.phis,p.d∈U→∀a∈p.arms,a.v∈U'
 ins:∀y∈x.list,Takes y (fun v=>v∈U)→∀v∈usesV y.op y.a y.b,v∈U'
 fin:∀v∈endsV x.term.k x.term.a,v∈U'
theorem pass_done {F:FnD}{x:BlockD}(hx:x∈F.blocks)(hw:WellB F.values x)(U:List Int):Done x U (passB U x):=by
 have g1:=grew_phis hx hw x.phis (fun _ h=>h) U
 have g2:=grew_list hx hw x.list (fun _ h=>h) (phisTake U x.phis)
 have g3:=grew_fin hx hw (insTake (phisTake U x.phis) x.list)
 exact⟨fun p hp hd a ha=>g3.sub _ (g2.sub _ (phis_done hx hw _ (fun _ h=>h) U p hp hd a ha)),fun y hy ht v hv=>g3.sub _ (list_done hx hw _ (fun _ h=>h) _ y hy (ht.mono (fun u hu=>g1.sub u hu)) v hv),fun v hv=>(addAll_has _ _).2 v hv⟩
theorem Done.more {x:BlockD}{U U' V V':List Int}(h:Done x U U')(hV:∀v∈V,v∈U)(hV':∀v∈U',v∈V'):Done x V V' :=
 ⟨fun p hp hd a ha=>hV' _ (h.phi p hp (hV _ hd) a ha),fun y hy ht v hv=>hV' _ (h.ins y hy (ht.mono hV) v hv),fun v hv=>hV' _ (h.fin v hv)⟩
theorem grew_passN {F:FnD}(hs:FnShape F)(hc:¬CopyIn F)(U:List Int)(b:Int):Grew F U (passN F U b):=by
 unfold passN
 split
 ·rename_i x hx
  exact grew_pass (List.mem_of_getElem? hx) (well_block hs hc (List.mem_of_getElem? hx)) U
 ·exact Grew.refl F U
theorem grew_round {F:FnD}(hs:FnShape F)(hc:¬CopyIn F):∀(l U:List Int),Grew F U (roundOf F l U)
 | [],U=>Grew.refl F U
 | b :: l,U=>(grew_passN hs hc U b).trans (grew_round hs hc l _)
theorem round_done {F:FnD}(hs:FnShape F)(hc:¬CopyIn F):∀(l U:List Int),∀b∈l,∀x,F.blocks[b.toNat]? = some x→Done x U (roundOf F l U)
 | [],U,b,hb,x,hx=>by cases hb
 | c :: l,U,b,hb,x,hx=>by
  show Done x U (roundOf F l (passN F U c))
  rcases List.mem_cons.1 hb with e | hb
  ·subst e
   have hp:passN F U b=passB U x:=by unfold passN;rw[hx]
   rw[hp]
   exact(pass_done (List.mem_of_getElem? hx) (well_block hs hc (List.mem_of_getElem? hx)) U).more (fun _ h=>h) (grew_round hs hc l _).sub
  ·exact(round_done hs hc l _ b hb x hx).more (grew_passN hs hc U c).sub (fun _ h=>h)
theorem round_ends {F:FnD}(hs:FnShape F)(hc:¬CopyIn F){l U:List Int}(hl:∀b,b<F.blocks.length→(b:Int)∈l)(hu:∀v∈U,UsedV F v)(he:roundOf F l U=U)(v:Int):v∈U↔UsedV F v:=by
 refine used_least (U:=fun v=>v∈U) (fun x hx=>?_) hu v
 obtain⟨b,hb⟩:=List.mem_iff_getElem?.1 hx
 have hd:=round_done hs hc l U (b:Int) (hl b (List.getElem?_eq_some_iff.1 hb).1) x (by simpa using hb)
 rw[he] at hd
 exact⟨fun y hy ht v hv=>hd.ins y hy ht v hv,fun p hp h a ha=>hd.phi p hp h a ha,fun v hv=>hd.fin v hv⟩
set_option maxRecDepth 100000
def factV (v:Int):Value := .agg #[.int .i64 1,.int .i64 v]
theorem fact_laid : laidOutB Tryz.prog=true:=by kernel_rfl
theorem fact_row : (106:TypeId)<Tryz.prog.types.size:=of_decide_eq_true (by kernel_rfl)
theorem fact_wide : (match Tryz.prog.underlying 106 with | some (.array _ _) | some (.struct _)=>true | _=>false)=true:=by kernel_rfl
theorem fact_keyed : Maps.Keyed Tryz.prog 106:=Maps.Keyed.of_law (deep_law_laid fact_laid (m:=2) (by omega) fact_row (by kernel_rfl) fact_wide)
theorem fact_keys : ((List.range 80).all (fun v=>(keyOf Tryz.prog 106 (factV (v:Int))).isSome))=true:=by kernel_rfl
noncomputable def fk (v:Int):Lit:=(keyOf Tryz.prog 106 (factV v)).getD (.bool false)
theorem fk_key {v:Int}(h:0≤v∧v<80):keyOf Tryz.prog 106 (factV v)=some (fk v):=by
 have h1:=List.all_eq_true.1 fact_keys v.toNat (by simp;omega)
 rw[Int.toNat_of_nonneg h.1] at h1
 unfold fk
 cases hk:keyOf Tryz.prog 106 (factV v) with
 | none=>rw[hk] at h1;cases h1
 | some l=>rfl
theorem fk_inj {u v:Int}(hu:0≤u∧u<80)(hv:0≤v∧v<80)(h:fk u=fk v):u=v:=by
 have h1:=fk_key hu
 have h2:=fk_key hv
 rw[←h] at h2
 have:=fact_keyed.inj h1 h2
 simpa [factV] using this
theorem fk_lit {v:Int}(h:0≤v∧v<80):WideAt.IsKeyLit (fk v):=fact_keyed.key (fk_key h)
def MapU (w:World)(mb:Nat)(U:List Int):Prop:=U.Nodup∧(∀v∈U,0≤v∧v<80)∧∃D:DataW Unit,w.ownsMap Tryz.prog 106 (plainElem Tryz.prog 3) mb 80 D∧(∀v,0≤v∧v<80→Maps.has D (fk v)=decide (v∈U))∧Maps.size D=U.length
theorem nodup_le : ∀(l m:List Nat),l.Nodup→(∀x∈l,x∈m)→l.length≤m.length
 | [],m,_,_=>Nat.zero_le _
 | x :: l,m,h,hs=>by
  have hx:x∈m:=hs x (by simp)
  obtain⟨h1,h2⟩:=List.nodup_cons.1 h
  have h3:=nodup_le l (m.erase x) h2 (fun y hy=>(List.mem_erase_of_ne (a:=y) (b:=x) (by rintro rfl;exact h1 hy)).2 (hs y (by simp[hy])))
  rw[List.length_erase_of_mem hx] at h3
  have:0<m.length:=List.length_pos_of_mem hx
  simp
  omega
theorem small_list {U:List Int}(hn:U.Nodup)(hs:∀v∈U,0≤v∧v<80):U.length≤80:=by
 have h1:(U.map Int.toNat).Nodup:=by
  unfold List.Nodup at hn ⊢
  rw[List.pairwise_map]
  refine List.Pairwise.imp_of_mem (fun {a b} ha hb hne e=>hne ?_) hn
  have:=hs a ha
  have:=hs b hb
  omega
 have h2:∀x∈U.map Int.toNat,x∈List.range 80:=fun x hx=>by
  obtain⟨v,hv,rfl⟩:=List.mem_map.1 hx
  have:=hs v hv
  simp
  omega
 have h3:=nodup_le _ _ h1 h2
 simpa using h3
theorem MapU.kept {w w':World}{mb:Nat}{U:List Int}(h:MapU w mb U)(hb:Below w.heap.size w w'):MapU w' mb U:=by
 obtain⟨h1,h2,D,⟨es,ck,h3,h4⟩,h5⟩:=h
 exact⟨h1,h2,D,⟨es,ck,(hb.block mb (Array.getElem?_eq_some_iff.1 h3).1).trans h3,h4⟩,h5⟩
theorem MapU.lt {w:World}{mb:Nat}{U:List Int}(h:MapU w mb U):mb<w.heap.size:=by
 obtain⟨_,_,D,h1,_⟩:=h
 exact h1.lt
theorem MapU.isMap {w:World}{mb:Nat}{U:List Int}(h:MapU w mb U):∃es ck,w.heap[mb]? = some (.map es ck):=by
 obtain⟨_,_,D,⟨es,ck,h1,_⟩,_⟩:=h
 exact⟨es,ck,h1⟩
theorem retight {w:World}{P:Program}{k:TypeId}{R:Value→Option (DataW Unit × List MemPlace)}{b n m:Nat}{D:DataW Unit}(h:w.ownsMap P k R b n D)(hm:Maps.size D≤m):w.ownsMap P k R b m D:=by
 obtain⟨es,ck,h1,h2,h3,rfl⟩:=h
 refine⟨es,ck,h1,h2,?_,rfl⟩
 rw[Maps.size_eq,length_sorted,List.length_map] at hm
 simpa using hm
theorem MapU.put {w w':World}{mb:Nat}{U:List Int}{D:DataW Unit}{v:Int}(hv:0≤v∧v<80)(hn:U.Nodup)(hs:∀v∈U,0≤v∧v<80)(hD:w.ownsMap Tryz.prog 106 (plainElem Tryz.prog 3) mb 80 D)(hh:∀v,0≤v∧v<80→Maps.has D (fk v)=decide (v∈U))(hz:Maps.size D=U.length)
  (h':w'.ownsMap Tryz.prog 106 (plainElem Tryz.prog 3) mb (80+1) (D.put (fk v) (.lit (.int .i64 1)))):MapU w' mb (if v∈U then U else U ++ [v]):=by
 have ht:=hD.tidy fact_keyed
 have hsz:=Maps.size_put (k:=fk v) ht (.lit (.int .i64 1))
 rw[hh v hv,hz] at hsz
 have hn':(if v∈U then U else U ++ [v]).Nodup:=by
  split
  ·exact hn
  ·rename_i hv'
   rw[List.nodup_append]
   refine⟨hn,by simp,fun a ha b hb e=>?_⟩
   simp at hb
   subst hb
   subst e
   exact hv' ha
 have hs':∀x∈(if v∈U then U else U ++ [v]),0≤x∧x<80:=fun x hx=>by
  split at hx
  ·exact hs x hx
  ·rcases List.mem_append.1 hx with hx | hx
   ·exact hs x hx
   ·simp at hx;rw[hx];exact hv
 have hlen:Maps.size (D.put (fk v) (.lit (.int .i64 1)))=(if v∈U then U else U ++ [v]).length:=by
  rw[hsz]
  split <;> simp_all
 refine⟨hn',hs',_,retight h' (by rw[hlen];exact small_list hn' hs'),fun x hx=>?_,hlen⟩
 by_cases e:x=v
 ·subst e
  rw[Maps.has_put_same ht.isMap (fk_lit hx)]
  split <;> simp_all
 ·rw[Maps.has_put_other (fun e2=>e (fk_inj hx hv e2)),hh x hx]
  split
  ·rfl
  ·simp[e]
theorem zero_int (w:World):(zeroValue 3).run Tryz.prog w = .ok (.int .i64 0) w:=by kernel_rfl
set_option maxHeartbeats 2000000 in
theorem factUsed_any (mb:Nat)(U:List Int)(v:Int)(w:World)(hm:MapU w mb U)(hv:0≤v∧v<80) :
  Calls Tryz.prog 33 #[.map (some mb),.int .i64 v] w fun e w'=>e = .returned (.bool (decide (v∈U)))∧w'=w:=by
 obtain⟨_,_,D,hown,hh,_⟩:=hm
 have HH:Hid (Maps.has D (fk v)=decide (v∈U)):=hh v hv
 have hkey:=fk_key hv
 unfold factV at hkey
 obtain⟨R,HR⟩:∃R,Hid (decide (v∈U)=R):=⟨_,rfl⟩
 rw[HR.out]
 clear hh
 go_enter Tryz.func33,Tryz.ntmps33
 go_wp2_with (at_lookup;refine wpList_lookup_own_ok_int _ rfl _ _ 60 rfl 106 3 .i64 fact_keyed Tryz.underlying60 Tryz.underlying3 (zero_int _) mb 80 D rfl hown _ _ rfl hkey ?_;intro c hat hwc;rw[HH.out,HR.out];clear hat hwc hkey hown)
 go_ret
 exact⟨rfl,rfl⟩
theorem OwnInts.offMap {w w':World}{lo mb:Nat}{v:Value}{l:List Int}(h:OwnInts w lo v l)(hf:Fr mb w w')(hm:∃es ck,w.heap[mb]? = some (.map es ck)):OwnInts w' lo v l:=by
 obtain⟨es,ck,hm⟩:=hm
 obtain⟨h0,h1⟩:=h
 refine⟨h0,?_⟩
 rcases h1 with h1 | ⟨g,cap,cur,rfl,hlo,hg,h2⟩
 ·exact .inl h1
 ·refine .inr ⟨g,cap,cur,rfl,hlo,(hf.block g (Array.getElem?_eq_some_iff.1 hg).1 (fun e=>?_)).trans hg,h2⟩
  subst e
  rw[hm] at hg
  cases hg
theorem IntsAt.offMap {w w':World}{mb:Nat}{v:Value}{l:List Int}(h:IntsAt w v l)(hf:Fr mb w w')(hm:∃es ck,w.heap[mb]? = some (.map es ck)):IntsAt w' v l:=by
 obtain⟨es,ck,hm⟩:=hm
 obtain⟨a,cap,rfl,h1,hc⟩:=h
 refine⟨a,cap,rfl,h1,fun hp=>?_⟩
 obtain⟨b,off,rfl,hd⟩:=hc hp
 refine⟨b,off,rfl,fun i hi=>?_⟩
 have h9:=hd i hi
 have hlt:=World.block_lt_of_cell? w _ h9
 rw[hf.cell (x:=⟨b,off+i,none⟩) hlt (fun e=>?_)]
 ·exact h9
 ·have e2:b=mb:=e
  subst e2
  simp[World.cell?,hm] at h9
def GivesU (w:World)(mb:Nat)(U:List Int)(e:Ending)(w':World):Prop:=(∃r,e = .returned r)∧Fr mb w w'∧MapU w' mb U
set_option maxHeartbeats 4000000 in
theorem factTake_any (mb:Nat)(U:List Int)(lv:Value)(l:List Int)(w:World)(hm:MapU w mb U)(hl:IntsAt w lv l)(hs:∀v∈l,0≤v∧v<80)(h100:l.length≤1000) :
  Calls Tryz.prog 126 #[.map (some mb),lv] w fun e w'=>GivesU w mb (addAll U l) e w':=by
 have HM:Hid (MapU w mb U):=hm
 have HLI:Hid (IntsAt w lv l):=hl
 have HS:Hid (∀v∈l,0≤v∧v<80):=hs
 obtain⟨a,cap,rfl,hlm,hc⟩:=hl
 obtain⟨m,HL⟩:∃m,Hid (l.length=m):=⟨_,rfl⟩
 rw[HL.out] at hlm hc h100 HLI ⊢
 have hmx:5000≤maxLen:=by decide
 clear hc hm hs
 go_enter Tryz.func126,Tryz.ntmps126
 go_wp2_with fail
 go_loopw [8] (fun i wr=>∃k:Nat,k≤m∧i = .int .i64 k∧MapU wr mb (addAll U (l.take k))∧Fr mb w wr) (fun i _=>m-(intOf i).toNat)
 case atStart=>exact⟨0,Nat.zero_le _,rfl,by simpa [addAll] using HM.out,Fr.refl _ _⟩
 case round=>
  obtain⟨k,hk,rfl,hMp,hF⟩:=hrel
  have HMP:Hid (MapU wr mb (addAll U (l.take k))):=hMp
  have HF:Hid (Fr mb w wr):=hF
  clear hMp hF
  by_cases hlt:(k:Int)<(m:Int)
  ·have hkl:k<l.length:=by have:=HL.out;omega
   obtain⟨v,HV⟩:∃v,Hid (l[k]? = some v):=⟨l[k],List.getElem?_eq_getElem hkl⟩
   obtain⟨b,off,hab,hd⟩:∃b off,a=some ⟨b,off,none⟩∧∀i,i<m→wr.cell? ⟨b,off+i,none⟩=some (.int .i64 (l.getD i 0)):=by
    obtain⟨a9,c9,e9,_,h9⟩:=HLI.out.offMap HF.out HM.out.isMap
    simp at e9
    obtain⟨b,off,e8,h8⟩:=h9 (by omega)
    exact⟨b,off,by rw[e9.1];exact e8,fun i hi=>h8 i (by have:=HL.out;omega)⟩
   subst hab
   have q0:=hd k (by omega)
   have hgd:l.getD k 0=v:=by rw[List.getD_eq_getElem?_getD,HV.out];rfl
   rw[hgd] at q0
   have HVS:Hid (0≤v∧v<80):=HS.out v (List.mem_of_getElem? HV.out)
   obtain⟨hn,hsm,D,hown,hh,hz⟩:=HMP.out
   have HPUT:Hid (∀w',w'.ownsMap Tryz.prog 106 (plainElem Tryz.prog 3) mb (80+1) (D.put (fk v) (.lit (.int .i64 1)))→MapU w' mb (if v∈addAll U (l.take k) then addAll U (l.take k) else addAll U (l.take k) ++ [v])):=fun w' h=>MapU.put HVS.out hn hsm hown hh hz h
   have HOWN:Hid (wr.ownsMap Tryz.prog 106 (plainElem Tryz.prog 3) mb 80 D):=hown
   have HKEY:Hid (keyOf Tryz.prog 106 (.agg #[.int .i64 1,.int .i64 v])=some (fk v)):=fk_key HVS.out
   clear hn hsm hown hh hz hd hgd hkl
   go_wp2_with (at_mapUpdate;refine wpList_mapUpdate_own _ rfl _ _ _ 60 rfl 106 3 fact_keyed Tryz.underlying60 _ mb 80 D rfl HOWN.out (by omega) _ _ _ rfl rfl HKEY.out _ _ (plainElem_int Tryz.underlying3 (by decide)) ?_;intro w2 hown2 hg2;have HM2:Hid (MapU w2 mb (if v∈addAll U (l.take k) then addAll U (l.take k) else addAll U (l.take k) ++ [v])):=HPUT.out w2 hown2;have HG2:Hid (wr.grownBy w2 (some mb)):=hg2;clear hown2 hg2)
   go_roundw
   case rel=>
    refine⟨k+1,by omega,by go_num,?_,HF.out.trans ⟨HG2.out.os,HG2.out.tape,HG2.out.output,HG2.out.size,fun q hq hp=>HG2.out.block q hq (by simpa using hp)⟩⟩
    have e:l.take (k+1)=l.take k ++ [v]:=by rw[List.take_add_one,HV.out];rfl
    rw[e,addAll_app]
    exact HM2.out
   case measure=>simp[intOf];omega
  ·have hkm:k=m:=by omega
   subst hkm
   go_wp2_with fail
   go_end0
   refine⟨⟨_,rfl⟩,HF.out,?_⟩
   have h9:=HMP.out
   rw[List.take_of_length_le (by have:=HL.out;omega)] at h9
   exact h9
set_option maxRecDepth 100000
theorem keeps_fr {w w':World}{mb:Nat}(hf:Fr mb w w')(hm:∃es ck,w.heap[mb]? = some (.map es ck)):Keeps 0 w w':=fun p v _ h=>by
 obtain⟨es,ck,hm⟩:=hm
 rw[hf.cell (World.block_lt_of_cell? w _ h) (fun e=>?_)]
 ·exact h
 ·simp[World.cell?,e,hm] at h
theorem Fr.more {p:Nat}{a w w':World}(h:Fr p a w)(hb:Below w.heap.size w w'):Fr p a w':=h.trans (Fr.ofBelow hb)
set_option maxHeartbeats 4000000 in
theorem takeArms_any (mb:Nat)(U:List Int)(d:Int)(av:Value)(arms:List ArmD)(w:World)(hm:MapU w mb U)(hA:ListAt 0 2 ArmAt w av arms)(hs:∀a∈arms,0≤a.v∧a.v<80)(h16:arms.length≤1000) :
  Calls Tryz.prog 124 #[.map (some mb),.agg #[.int .i64 d,av]] w fun e w'=>GivesU w mb (addAll U (arms.map (fun a=>a.v))) e w':=by
 have HM:Hid (MapU w mb U):=hm
 have HA:Hid (ListAt 0 2 ArmAt w av arms):=hA
 have HS:Hid (∀a∈arms,0≤a.v∧a.v<80):=hs
 obtain⟨m,HL⟩:∃m,Hid (arms.length=m):=⟨_,rfl⟩
 obtain⟨aa,acap,rfl,ham,_⟩:=hA
 rw[HL.out] at ham h16 HA ⊢
 clear hm hs
 go_enter Tryz.func124,Tryz.ntmps124
 go_wp2_with fail
 obtain⟨w1,hw1⟩:∃W,w.alloc (.cells #[.int .i64 d,.slice aa m acap] 91)=W:=⟨_,rfl⟩
 have B1:Hid (Below w.heap.size w w1):=by show Below _ _ _;rw[←hw1];exact Bel.alloc _ _
 rw[hw1]
 clear hw1
 go_loopw [9] (fun i wr=>∃k:Nat,k≤m∧i = .int .i64 k∧MapU wr mb (addAll U ((arms.take k).map (fun a=>a.v)))∧Fr mb w wr) (fun i _=>m-(intOf i).toNat)
 case atStart=>exact⟨0,Nat.zero_le _,rfl,by simpa [addAll] using HM.out.kept B1.out,Fr.ofBelow B1.out⟩
 case round=>
  obtain⟨k,hk,rfl,hMp,hF⟩:=hrel
  have HMP:Hid (MapU wr mb (addAll U ((arms.take k).map (fun a=>a.v)))):=hMp
  have HF:Hid (Fr mb w wr):=hF
  clear hMp hF
  by_cases hlt:(k:Int)<(m:Int)
  ·obtain⟨x,hx⟩:∃x,arms[k]? = some x:=⟨_,List.getElem?_eq_getElem (by have:=HL.out;omega)⟩
   have HX:Hid (arms[k]? = some x):=hx
   obtain⟨b,off,rfl,x0,x1⟩:=listAt_at (arms_keep HA.out (keeps_fr HF.out HM.out.isMap)) hx
   clear hx
   obtain⟨fr,vv⟩:=x
   dsimp only at x0 x1
   have HVS:Hid (0≤vv∧vv<80):=HS.out _ (List.mem_of_getElem? HX.out)
   go_wp2_with fail
   obtain⟨w2,hw2⟩:∃W,(wr.alloc (.cells #[.int .i64 fr,.int .i64 vv] 98)).alloc (.cells #[.int .i64 vv] 3)=W:=⟨_,rfl⟩
   have B2:Hid (Below wr.heap.size wr w2):=by show Below _ _ _;rw[←hw2];repeat (first | exact Below.refl _ _ | apply Below.drew | refine Below.alloc ?_ (by simp <;> omega) _ | refine Below.setCell ?_ (by simp <;> omega) _)
   have I2:Hid (IntsAt w2 (.slice (some ⟨wr.heap.size+1,0,none⟩) 1 1) [vv]):=by
    refine⟨_,1,rfl,by simp,fun _=>⟨wr.heap.size+1,0,rfl,fun i hi=>?_⟩⟩
    have:i=0:=by simpa using hi
    subst this
    rw[←hw2]
    simp[go_sem]
   rw[hw2]
   clear hw2
   refine(factTake_any mb _ _ [vv] _ (HMP.out.kept B2.out) I2.out (fun v hv=>by simp at hv;rw[hv];exact HVS.out) (by simp)).mono ?_
   rintro e w3 ⟨⟨r,rfl⟩,f3,m3⟩
   have F3:Hid (Fr mb w w3):=(HF.out.more B2.out).trans f3
   have M3:Hid (MapU w3 mb (addAll (addAll U ((arms.take k).map (fun a=>a.v))) [vv])):=m3
   clear f3 m3
   go_wp2_with fail
   go_roundw
   case rel=>
    refine⟨k+1,by omega,by go_num,?_,F3.out⟩
    have e:arms.take (k+1)=arms.take k ++ [⟨fr,vv⟩]:=by rw[List.take_add_one,HX.out];rfl
    rw[e,List.map_append,addAll_app]
    exact M3.out
   case measure=>simp[intOf];omega
  ·have hkm:k=m:=by omega
   subst hkm
   go_wp2_with fail
   go_end0
   refine⟨⟨_,rfl⟩,HF.out,?_⟩
   have h9:=HMP.out
   rw[List.take_of_length_le (by have:=HL.out;omega)] at h9
   exact h9
set_option maxHeartbeats 4000000 in
theorem stays_any (mb:Nat)(U:List Int)(op d a b n:Int)(w:World)(hm:MapU w mb U)(hd:(1≤op∧op≤10)∨op=20→0≤d∧d<80) :
  Calls Tryz.prog 113 #[.map (some mb),.agg #[.int .i64 op,.int .i64 d,.int .i64 a,.int .i64 b,.int .i64 n]] w fun e w'=>e = .returned (.bool (stayB U ⟨op,d,a,b,n⟩))∧Below w.heap.size w w':=by
 have HM:Hid (MapU w mb U):=hm
 have HD:Hid ((1≤op∧op≤10)∨op=20→0≤d∧d<80):=hd
 clear hm hd
 obtain⟨R,HR⟩:∃R,Hid (stayB U ⟨op,d,a,b,n⟩=R):=⟨_,rfl⟩
 rw[HR.out]
 go_enter Tryz.func113,Tryz.ntmps113
 go_wp2_with fail
 refine(placeOf_any op d a b n _).mono ?_
 rintro e w1 ⟨rfl,b1⟩
 have B1:Hid (Below w.heap.size w w1):=Bel.after (Bel.alloc _ _) b1
 clear b1
 have y0:=wordPlace_yes
 have n0:=wordPlace_no
 have z0:=wordPlace_nil
 have y1:=constPlace_yes
 have n1:=constPlace_no
 have z1:=constPlace_nil
 rcases op_cases op with h | h | h | h | h | h | ⟨⟨e0,e1,e2,e3,e4,e5⟩,⟨h,h1⟩ | h | ⟨h1,h⟩⟩
 ·have HRR:Hid (decide (d∈U)=R):=by show _=_;rw[←HR.out];simp[stayB,h]
  subst h
  simp only[placeV,if_true,if_false,Int.reduceEq]
  go_wp2_with fail
  refine(factUsed_any mb U d _ (HM.out.kept (Bel.after B1.out (Bel.alloc _ _))) (HD.out (by simp))).mono ?_
  rintro e w2 ⟨rfl,e2⟩
  have e2:=e2.symm
  subst e2
  rw[HRR.out]
  go_wp2_with fail
  go_ret
  exact⟨rfl,Bel.after B1.out (Bel.alloc _ _)⟩
 ·obtain rfl:true=R:=by rw[←HR.out];simp[stayB,h]
  subst h
  simp only[placeV,if_true,if_false,Int.reduceEq]
  go_wp2_with fail
  go_ret
  exact⟨rfl,B1.out⟩
 ·obtain rfl:true=R:=by rw[←HR.out];simp[stayB,h]
  subst h
  simp only[placeV,if_true,if_false,Int.reduceEq]
  go_wp2_with fail
  go_ret
  exact⟨rfl,B1.out⟩
 ·obtain rfl:true=R:=by rw[←HR.out];simp[stayB,h]
  subst h
  simp only[placeV,if_true,if_false,Int.reduceEq]
  go_wp2_with fail
  go_ret
  exact⟨rfl,B1.out⟩
 ·obtain rfl:true=R:=by rw[←HR.out];simp[stayB,h]
  subst h
  simp only[placeV,if_true,if_false,Int.reduceEq]
  go_wp2_with fail
  go_ret
  exact⟨rfl,B1.out⟩
 ·obtain rfl:true=R:=by rw[←HR.out];simp[stayB,h]
  subst h
  simp only[placeV,if_true,if_false,Int.reduceEq]
  go_wp2_with fail
  go_ret
  exact⟨rfl,B1.out⟩
 ·have HRR:Hid (decide (d∈U)=R):=by show _=_;rw[←HR.out];simp[stayB,h,h1]
  rw[placeV_word e0 e1 e2 e3 e4 e5 h h1]
  go_wp2_with fail
  refine(factUsed_any mb U d _ (HM.out.kept (Bel.after B1.out (Bel.alloc _ _))) (HD.out (.inl ⟨h,h1⟩))).mono ?_
  rintro e w2 ⟨rfl,e2⟩
  have e2:=e2.symm
  subst e2
  rw[HRR.out]
  go_wp2_with fail
  go_ret
  exact⟨rfl,Bel.after B1.out (Bel.alloc _ _)⟩
 ·obtain rfl:true=R:=by
   rw[←HR.out]
   have e9:¬op=20:=by simpa using e0
   have e8:¬(1≤op∧op≤10):=by omega
   simp only[stayB,e9,e8,or_self,if_false]
  rw[placeV_none e0 e1 e2 e3 e4 e5 (by omega)]
  go_wp2_with fail
  go_ret
  exact⟨rfl,B1.out⟩
 ·obtain rfl:true=R:=by
   rw[←HR.out]
   have e9:¬op=20:=by simpa using e0
   have e8:¬(1≤op∧op≤10):=by omega
   simp only[stayB,e9,e8,or_self,if_false]
  rw[placeV_none e0 e1 e2 e3 e4 e5 (by omega)]
  go_wp2_with fail
  go_ret
  exact⟨rfl,B1.out⟩
set_option maxHeartbeats 4000000 in
theorem takePhis1_any (mb kb:Nat)(U:List Int)(B o:Nat)(x:BlockD)(w:World)(hm:MapU w mb U)(hk:w.cell? ⟨kb,0,none⟩=some (.map (some mb)))(hb:BlockAt 0 w B o x)(hw:WellB 80 x)(h24:x.phis.length≤24)(h16:∀p∈x.phis,p.arms.length≤1000) :
  Calls Tryz.prog 123 #[.pointer (some ⟨B,o,none⟩),.pointer (some ⟨kb,0,none⟩)] w fun e w'=>GivesU w mb (phisTake U x.phis) e w':=by
 have HM:Hid (MapU w mb U):=hm
 have HB:Hid (BlockAt 0 w B o x):=hb
 have HW:Hid (WellB 80 x):=hw
 have HK:Hid (w.cell? ⟨kb,0,none⟩=some (.map (some mb))):=hk
 have H16:Hid (∀p∈x.phis,p.arms.length≤1000):=h16
 obtain⟨pv,lv,b0,b1,_,_,_,_,hpl,_⟩:=hb
 have HPL:Hid (ListAt 0 2 (PhiAt 0) w pv x.phis):=hpl
 obtain⟨m,HL⟩:∃m,Hid (x.phis.length=m):=⟨_,rfl⟩
 obtain⟨pa,pcap,rfl,hpm,_⟩:=hpl
 rw[HL.out] at hpm h24 HPL b0
 clear hm hk hw h16
 go_enter Tryz.func123,Tryz.ntmps123
 go_wp2_with fail
 go_loopw [10] (fun i wr=>∃k:Nat,k≤m∧i = .int .i64 k∧MapU wr mb (phisTake U (x.phis.take k))∧Fr mb w wr) (fun i _=>m-(intOf i).toNat)
 case atStart=>exact⟨0,Nat.zero_le _,rfl,by simpa [phisTake] using HM.out,Fr.refl _ _⟩
 case round=>
  obtain⟨k,hk,rfl,hMp,hF⟩:=hrel
  have HMP:Hid (MapU wr mb (phisTake U (x.phis.take k))):=hMp
  have HF:Hid (Fr mb w wr):=hF
  clear hMp hF
  by_cases hlt:(k:Int)<(m:Int)
  ·obtain⟨p,hp⟩:∃p,x.phis[k]? = some p:=⟨_,List.getElem?_eq_getElem (by have:=HL.out;omega)⟩
   have HP:Hid (x.phis[k]? = some p):=hp
   obtain⟨pb,off,rfl,x0,av,x1,hav⟩:=listAt_at (phis_keep HPL.out (keeps_fr HF.out HM.out.isMap)) hp
   have HPM:Hid (p∈x.phis):=List.mem_of_getElem? hp
   have HAV:Hid (ListAt 0 2 ArmAt wr av p.arms):=hav
   obtain⟨an,HAN⟩:∃q,Hid (p.arms.length=q):=⟨_,rfl⟩
   obtain⟨aa,acap,rfl,_,_⟩:=hav
   obtain⟨d,HD⟩:∃q,Hid (p.d=q):=⟨_,rfl⟩
   rw[HD.out] at x0
   rw[HAN.out] at x1 HAV
   clear hp
   have k0:=keeps_fr HF.out HM.out.isMap ⟨kb,0,none⟩ _ (Nat.zero_le _) HK.out
   have hkb:kb<wr.heap.size:=World.block_lt_of_cell? wr _ k0
   obtain⟨R,HR⟩:∃R,Hid (decide (d∈phisTake U (x.phis.take k))=R):=⟨_,rfl⟩
   go_wp2_with fail
   obtain⟨w2,hw2⟩:∃W,wr.alloc (.cells #[.int .i64 d,.slice aa an acap] 91)=W:=⟨_,rfl⟩
   have B2:Hid (Below wr.heap.size wr w2):=by show Below _ _ _;rw[←hw2];exact Bel.alloc _ _
   have p0:w2.cell? ⟨wr.heap.size,0,none⟩=some (.int .i64 d):=by rw[←hw2];simp[go_sem]
   have p1:w2.cell? ⟨wr.heap.size,1,none⟩=some (.slice aa an acap):=by rw[←hw2];simp[go_sem]
   have k2:=Bel.keeps B2.out k0
   rw[hw2]
   clear hw2 k0 x0 x1
   refine(factUsed_any mb _ d _ (HMP.out.kept B2.out) (by have h9:=(HW.out.phis p HPM.out).1;rw[HD.out] at h9;exact h9)).mono ?_
   rintro e w3 ⟨rfl,e3⟩
   have e3:=e3.symm
   subst e3
   rw[HR.out]
   have HST:Hid (x.phis.take (k+1)=x.phis.take k ++ [p]):=by show _=_;rw[List.take_add_one,HP.out];rfl
   cases R with
   | false=>
    go_wp2_with fail
    go_roundw
    case rel=>
     refine⟨k+1,by omega,by go_num,?_,HF.out.more B2.out⟩
     have e:phisTake U (x.phis.take (k+1))=phisTake U (x.phis.take k):=by
      rw[HST.out]
      have h9:¬p.d∈phisTake U (x.phis.take k):=by rw[HD.out];simpa using HR.out
      show phisTake U (x.phis.take k ++ [p])=_
      unfold phisTake at h9 ⊢
      rw[List.foldl_append]
      simp only[List.foldl_cons,List.foldl_nil,phiStep]
      rw[if_neg h9]
     rw[e]
     exact HMP.out.kept B2.out
    case measure=>simp[intOf];omega
   | true=>
    go_wp2_with fail
    refine(takeArms_any mb _ d (.slice aa an acap) p.arms _ (HMP.out.kept B2.out) (arms_keep HAV.out (Keeps.of_below B2.out 0)) (fun a ha=>(HW.out.phis p HPM.out).2 a ha) (H16.out p HPM.out)).mono ?_
    rintro e w4 ⟨⟨r,rfl⟩,f4,m4⟩
    have F4:Hid (Fr mb w w4):=(HF.out.more B2.out).trans f4
    have M4:Hid (MapU w4 mb (addAll (phisTake U (x.phis.take k)) (p.arms.map (fun a=>a.v)))):=m4
    clear f4 m4
    go_wp2_with fail
    go_roundw
    case rel=>
     refine⟨k+1,by omega,by go_num,?_,F4.out⟩
     have e:phisTake U (x.phis.take (k+1))=addAll (phisTake U (x.phis.take k)) (p.arms.map (fun a=>a.v)):=by
      rw[HST.out]
      have h9:p.d∈phisTake U (x.phis.take k):=by rw[HD.out];simpa using HR.out
      unfold phisTake at h9 ⊢
      rw[List.foldl_append]
      simp only[List.foldl_cons,List.foldl_nil,phiStep]
      rw[if_pos h9]
     rw[e]
     exact M4.out
    case measure=>simp[intOf];omega
  ·have hkm:k=m:=by omega
   subst hkm
   go_wp2_with fail
   go_end0
   refine⟨⟨_,rfl⟩,HF.out,?_⟩
   have h9:=HMP.out
   rw[List.take_of_length_le (by have:=HL.out;omega)] at h9
   exact h9
end Go.Proofs.YtinlfjgabkodcaaGreatDoor
