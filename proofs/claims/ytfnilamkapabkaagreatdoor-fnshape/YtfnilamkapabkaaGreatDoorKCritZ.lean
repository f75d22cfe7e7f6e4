/- Lists of edges: of the call's own, read, compared, marked, held against the marks. Critical edges, as mathematics. Small facts of lists of numbers in memory. Critical of the program. -/
import Derived.Test.YtfnilamkapabkaaGreatDoorKTo
import Derived.Handy
import Derived.Deep.RegionWith
import Derived.BigRegion
import Derived.Deep.QuietTactic
import Derived.BigQuiet
import Derived.Test.YtfnilamkapabkaaGreatDoorKMark
import Derived.Test.YtfnilamkapabkaaGreatDoorKGraph
import Derived.Test.YtfnilamkapabkaaGreatDoorKIns
import Derived.Test.YtfnilamkapabkaaGreatDoorKSh5
import Derived.Test.YtfnilamkapabkaaGreatDoorKCkS
namespace Go.Proofs.YtfnilamkapabkaaGreatDoor
open Go.ChangeShapes Go.WideShapes Go.ChangeAt Go.RowKit
set_option linter.unusedVariables false
def edgeC : List ArmD→List Value
 | []=>[]
 | e :: l=>.int .i64 e.fr :: .int .i64 e.v :: edgeC l
theorem edgeC_len (l:List ArmD):(edgeC l).length=l.length*2:=by
 induction l with
 | nil=>rfl
 | cons e l ih=>simp only[edgeC,List.length_cons,ih];omega
theorem edgeC_at (l:List ArmD):∀{i:Nat} {x:ArmD},l[i]? = some x→(edgeC l)[i*2]? = some (.int .i64 x.fr)∧(edgeC l)[i*2+1]? = some (.int .i64 x.v):=by
 induction l with
 | nil=>intro i x h;simp at h
 | cons e l ih=>
  intro i x h
  cases i with
  | zero=>
   simp at h
   subst h
   exact⟨rfl,rfl⟩
  | succ i=>
   simp at h
   have:=ih h
   rw[show(i+1)*2=i*2+1+1 by omega]
   simpa [edgeC] using this
theorem edgeC_app (l m:List ArmD):edgeC (l ++ m)=edgeC l ++ edgeC m:=by
 induction l with
 | nil=>rfl
 | cons e l ih=>simp[edgeC,ih]
def OwnEdges (w:World)(lo:Nat)(v:Value)(l:List ArmD):Prop:=w.ownsRow lo 155 2 v l.length (edgeC l)
def EdgesAt (w:World)(v:Value)(l:List ArmD):Prop:=ListAt 0 2 ArmAt w v l
theorem OwnEdges.small {w:World}{lo:Nat}{v:Value}{l:List ArmD}(h:OwnEdges w lo v l):l.length≤maxLen:=by
 rcases h.2 with ⟨_,h0⟩ | ⟨g,cap,cur,_,_,_,h1,h2,_⟩
 ·rw[h0];exact Nat.zero_le _
 ·omega
theorem OwnEdges.row {w:World}{lo:Nat}{v:Value}{l:List ArmD}(h:OwnEdges w lo v l) :
  ∃a cap,v = .slice a l.length cap∧(0<l.length→∃g,a=some ⟨g,0,none⟩∧lo≤g∧g<w.heap.size∧(∀i x,l[i]? = some x→ArmAt w g (i*2) x)∧∀i,w.frozen? ⟨g,i,none⟩=false):=by
 rcases h.2 with ⟨rfl,h0⟩ | ⟨g,cap,cur,rfl,hlo,hg,h1,h2,h3,h4⟩
 ·exact⟨none,0,by rw[h0],fun hp=>absurd hp (by omega)⟩
 ·refine⟨_,cap,rfl,fun hp=>⟨g,rfl,hlo,(Array.getElem?_eq_some_iff.1 hg).1,fun i x hx=>?_,fun i=>?_⟩⟩
  ·have hi:i<l.length:=(List.getElem?_eq_some_iff.1 hx).1
   obtain⟨c0,c1⟩:=edgeC_at l hx
   have e0:cur[i*2]? = some (.int .i64 x.fr):=by
    have e1:(cur.toList.take (l.length*2))[i*2]? = cur[i*2]?:=by rw[List.getElem?_take];simp;omega
    rw[←e1,h4]
    exact c0
   have e2:cur[i*2+1]? = some (.int .i64 x.v):=by
    have e1:(cur.toList.take (l.length*2))[i*2+1]? = cur[i*2+1]?:=by rw[List.getElem?_take];simp;omega
    rw[←e1,h4]
    exact c1
   exact⟨by simp[World.cell?,hg,e0],by simp[World.cell?,hg,e2]⟩
  ·simp[World.frozen?,hg]
theorem OwnEdges.at {w:World}{lo:Nat}{v:Value}{l:List ArmD}(h:OwnEdges w lo v l):EdgesAt w v l:=by
 have hs:=h.small
 obtain⟨a,cap,rfl,hc⟩:=h.row
 refine ⟨a, cap, rfl, by have : maxLen ≤ 9223372036854775807 := by decide
                         omega,fun hp=>?_⟩
 obtain⟨g,rfl,_,_,hd,_⟩:=hc hp
 exact⟨g,0,rfl,Nat.zero_le _,fun i x hx=>by simpa using hd i x hx⟩
theorem OwnEdges.keep {w w':World}{lo:Nat}{v:Value}{l:List ArmD}(h:OwnEdges w lo v l)(hb:Below w.heap.size w w'):OwnEdges w' lo v l:=ownsRow_later h hb
theorem OwnEdges.low {w:World}{lo lo':Nat}{v:Value}{l:List ArmD}(h:OwnEdges w lo v l)(hl:lo'≤lo):OwnEdges w lo' v l:=ownsRow_low h hl
theorem OwnEdges.lt {w:World}{b:Nat}{v:Value}{l:List ArmD}(h:OwnEdges w b v l):∀g,v.ownBlock=some g→b≤g∧g<w.heap.size:=World.ownsRow.lt h
theorem EdgesAt.keep {w w':World}{v:Value}{l:List ArmD}(h:EdgesAt w v l)(hb:Below w.heap.size w w'):EdgesAt w' v l:=ListAt.keep h (fun b o z hb2 h=>h.keep (Keeps.of_below hb 0) hb2)
theorem EdgesAt.under {w w':World}{v:Value}{l:List ArmD}(h:EdgesAt w v l){lo:Nat}(hb:Below lo w w')(hv:∀a,v.ownBlock=some a→a<lo):EdgesAt w' v l:=by
 obtain⟨a,cap,rfl,hm,hc⟩:=h
 refine⟨a,cap,rfl,hm,fun hp=>?_⟩
 obtain⟨b,off,rfl,h0,hd⟩:=hc hp
 exact⟨b,off,rfl,h0,fun i x hx=>⟨(hb.cell (p:=⟨b,off+i*2,none⟩) (hv b rfl)).trans (hd i x hx).1,(hb.cell (p:=⟨b,off+i*2+1,none⟩) (hv b rfl)).trans (hd i x hx).2⟩⟩
def GivesEdges (w:World)(l:List ArmD)(e:Ending)(w':World):Prop := ∃v,e = .returned v∧OwnEdges w' w.heap.size v l∧Below w.heap.size w w'
theorem ownEdges_nil {w w':World}{lo g:Nat}(hg:w'.heap[g]? = some (.cells #[] 155 (0,0)))(hl:lo≤g):OwnEdges w' lo (.slice (some ⟨g,0,none⟩) 0 0) [] :=
 ⟨rfl,.inr ⟨g,0,#[],rfl,hl,hg,Nat.le_refl _,Nat.zero_le _,rfl,rfl⟩⟩
theorem OwnEdges.next {w:World}{lo:Nat}{v:Value}{l:List ArmD}{x:ArmD}(h:w.ownsRow lo 155 2 v (l.length+1) (edgeC l ++ [Value.int .i64 x.fr,Value.int .i64 x.v])):OwnEdges w lo v (l ++ [x]):=by
 unfold OwnEdges
 rw[edgeC_app,List.length_append]
 exact h
theorem OwnEdges.more {w:World}{lo:Nat}{v:Value}{l m:List ArmD}(h:w.ownsRow lo 155 2 v (l.length+m.length) (edgeC l ++ edgeC m)):OwnEdges w lo v (l ++ m):=by
 unfold OwnEdges
 rw[edgeC_app,List.length_append]
 exact h
theorem OwnEdges.not_box {w:World}{lo:Nat}{v:Value}{l:List ArmD}(h:OwnEdges w lo v l){B:Nat}{c:Array Value}{t:TypeId}{z:Nat × Nat}(hB:w.heap[B]? = some (.cells c t z))(ht:t≠155):some B≠v.ownBlock:=by
 rcases h.2 with ⟨rfl,_⟩ | ⟨g,cap,cur,rfl,_,hgb,_⟩
 ·simp[Value.ownBlock]
 ·intro e'
  obtain rfl:B=g:=by simpa [Value.ownBlock] using e'
  rw[hgb] at hB
  simp at hB
  exact ht hB.2.1.symm
def phiLen (F:FnD)(b:Nat):Nat:=match F.blocks[b]? with | some x=>x.phis.length | none=>0
theorem phiLen_at {F:FnD}{b:Nat}{x:BlockD}(h:F.blocks[b]? = some x):phiLen F b=x.phis.length:=by simp[phiLen,h]
def critTo (F:FnD)(s:Int):Bool:=decide (1<(predsN F s).length∨0<phiLen F s.toNat)
theorem critTo_yes {F:FnD}{s:Int}(h:1<(predsN F s).length∨0<phiLen F s.toNat):critTo F s=true:=decide_eq_true h
theorem critTo_no {F:FnD}{s:Int}(h1:¬1<(predsN F s).length)(h2:¬0<phiLen F s.toNat):critTo F s=false:=decide_eq_false (fun h=>h.elim h1 h2)
def critSel (F:FnD)(a:Nat)(ss:List Int):List ArmD:=(ss.filter (critTo F)).map (fun s=>⟨(a:Int),s⟩)
theorem critSel_yes {F:FnD}{a:Nat}{ss:List Int}{s:Int}(h:critTo F s=true):critSel F a (ss ++ [s])=critSel F a ss ++ [⟨(a:Int),s⟩]:=by simp[critSel,h]
theorem critSel_no {F:FnD}{a:Nat}{ss:List Int}{s:Int}(h:critTo F s=false):critSel F a (ss ++ [s])=critSel F a ss:=by simp[critSel,h]
theorem critSel_len (F:FnD)(a:Nat)(ss:List Int):(critSel F a ss).length≤ss.length:=by
 unfold critSel
 rw[List.length_map]
 exact List.length_filter_le _ _
def critFrom (F:FnD)(a:Nat):List ArmD:=if 1<(succsN F a).length then critSel F a (succsN F a) else []
theorem critFrom_len (F:FnD)(a:Nat):(critFrom F a).length≤2:=by
 unfold critFrom
 split
 ·exact Nat.le_trans (critSel_len _ _ _) (succsN_small F a)
 ·simp
def critUp (F:FnD):Nat→List ArmD
 | 0=>[]
 | k+1=>critUp F k ++ critFrom F k
theorem critUp_len (F:FnD)(k:Nat):(critUp F k).length≤k*2:=by
 induction k with
 | zero=>simp[critUp]
 | succ k ih=>
  have:=critFrom_len F k
  simp only[critUp,List.length_append]
  omega
open Classical in
noncomputable def critOf (F:FnD):List ArmD:=if FnShape F then critUp F F.blocks.length else []
theorem critOf_yes {F:FnD}(h:FnShape F):critOf F=critUp F F.blocks.length:=if_pos h
theorem critOf_no {F:FnD}(h:¬FnShape F):critOf F = []:=if_neg h
theorem IntsAt.cellsQ {w:World}{oa:Option Addr}{n ocap:Nat}{o:List Int}(h:IntsAt w (.slice oa n ocap) o):∀k,k<n→∃b off,oa=some ⟨b,off,none⟩∧w.cell? ⟨b,off+k,none⟩=some (.int .i64 (o.getD k 0)):=by
 intro k hk
 obtain⟨a,cap,e,_,hc⟩:=h
 simp at e
 obtain⟨rfl,rfl,rfl⟩:=e
 obtain⟨b,off,rfl,hd⟩:=hc (by omega)
 exact⟨b,off,rfl,hd k hk⟩
theorem getD_in {l:List Int}{i:Nat}(h:i<l.length):l.getD i 0∈l:=by
 rw[List.getD_eq_getElem?_getD,List.getElem?_eq_getElem h]
 exact List.getElem_mem h
theorem info_edge : (Tryz.prog.info? 155).map (fun i=>(i.zero,i.size,i.bytes))=some (some (.agg #[.int .i64 0,.int .i64 0]),2,16):=by kernel_rfl
theorem cells_two_new (w:World)(x y:Value)(t:TypeId):∀j u,[x,y][j]? = some u→(w.alloc (.cells #[x,y] t)).cell? ((⟨w.heap.size,0,none⟩:Addr).add j)=some u:=by
 intro j u hj
 match j,hj with
 | 0,hj=>simp at hj;subst hj;simp[Addr.add]
 | 1,hj=>simp at hj;subst hj;simp[Addr.add]
 | j+2,hj=>simp at hj
theorem ownEdges_new {w:World}{g lo:Nat}(hg:w.heap.size=g)(hl:lo≤g):OwnEdges (w.alloc (.cells #[] 155)) lo (.slice (some ⟨g,0,none⟩) 0 0) []:=by
 subst hg
 exact ownEdges_nil (w:=w) (World.alloc_heap_new w _) hl
theorem ownsRow_grown {W w1:World}{lo:Nat}{e:TypeId}{sz k:Nat}{v:Value}{xs:List Value}(h:W.ownsRow lo e sz v k xs)(hlo:lo≤W.heap.size){o:Obj}(hg:(W.alloc o).grownBy w1 v.ownBlock):Below lo W w1:=by
 refine((Below.refl lo W).alloc hlo o).grown hg (by simp;omega) fun j ej=>?_
 rcases h.2 with ⟨rfl,_⟩ | ⟨g,cap,cur,rfl,hb,_,_⟩
 ·simp[Value.ownBlock] at ej
 ·obtain rfl:g=j:=by simpa [Value.ownBlock] using ej
  exact hb
theorem ownsRow_grown0 {W w1:World}{lo:Nat}{e:TypeId}{sz k:Nat}{v:Value}{xs:List Value}(h:W.ownsRow lo e sz v k xs)(hlo:lo≤W.heap.size)(hg:W.grownBy w1 v.ownBlock):Below lo W w1:=by
 refine(Below.refl lo W).grown hg (by omega) fun j ej=>?_
 rcases h.2 with ⟨rfl,_⟩ | ⟨g,cap,cur,rfl,hb,_,_⟩
 ·simp[Value.ownBlock] at ej
 ·obtain rfl:g=j:=by simpa [Value.ownBlock] using ej
  exact hb
theorem box_aside0 {w w':World}{lo:Nat}{u:Value}{m:List ArmD}(he:OwnEdges w lo u m)(hg:w.grownBy w' u.ownBlock){B:Nat}{c:Array Value}{t:TypeId}{z:Nat × Nat}(hB:w.heap[B]? = some (.cells c t z))(ht:t≠155):w'.heap[B]? = some (.cells c t z) :=
 (hg.block B (Array.getElem?_eq_some_iff.1 hB).1 (he.not_box hB ht)).trans hB
theorem edgeC_one : ∀(l:List ArmD),∀u∈edgeC l,u.oneCell'=true
 | [],u,h=>by cases h
 | e :: l,u,h=>by
  rcases List.mem_cons.1 h with rfl | h
  ·rfl
  ·rcases List.mem_cons.1 h with rfl | h
   ·rfl
   ·exact edgeC_one l u h
theorem box_aside {w w':World}{lo:Nat}{u:Value}{m:List ArmD}(he:OwnEdges w lo u m){o:Obj}(hg:(w.alloc o).grownBy w' u.ownBlock){B:Nat}{c:Array Value}{t:TypeId}{z:Nat × Nat}(hB:w.heap[B]? = some (.cells c t z))(ht:t≠155):w'.heap[B]? = some (.cells c t z):=by
 have hlt:=(Array.getElem?_eq_some_iff.1 hB).1
 exact(hg.block B (by simp;omega) (he.not_box hB ht)).trans ((Below.heap_alloc _ _ _ hlt).trans hB)
theorem ints_aside {w w':World}{lo lo':Nat}{v u:Value}{l:List Int}{m:List ArmD}(h:OwnInts w lo' v l)(he:OwnEdges w lo u m){o:Obj}(hg:(w.alloc o).grownBy w' u.ownBlock):OwnInts w' lo' v l:=by
 obtain⟨h0,h1⟩:=h
 refine⟨h0,?_⟩
 rcases h1 with h1 | ⟨g,cap,cur,rfl,hlo,hgc,h2⟩
 ·exact .inl h1
 ·exact .inr ⟨g,cap,cur,rfl,hlo,box_aside he hg hgc (by decide),h2⟩
def GivesEdgesN (w:World)(l:List ArmD)(e:Ending)(w':World):Prop := ∃v,e = .returned v∧OwnEdges w' w.heap.size v l∧v≠.slice none 0 0∧Below w.heap.size w w'
set_option maxRecDepth 100000 in
set_option maxHeartbeats 8000000 in
theorem criticalFrom_any (v:Value)(F:FnD)(a:Nat)(w:World)(hF:FnAt w v F)(hS:FnShape F)(ha:a<F.blocks.length) :
  Calls Tryz.prog 51 #[v,.int .i64 (a:Int)] w fun e w'=>GivesEdgesN w (critFrom F a) e w':=by
 have HF:Hid (FnAt w v F):=hF
 have HS:Hid (FnShape F):=hS
 obtain⟨n,HN⟩:∃n,Hid (F.blocks.length=n):=⟨_,rfl⟩
 obtain⟨vals,HV⟩:∃x,Hid (F.values=x):=⟨_,rfl⟩
 obtain⟨ba,bcap,rfl⟩:=hF.out HN.out HV.out
 have han:a<n:=by have:=HN.out;omega
 have hn16:n≤16:=by have:=hS.2.1;have:=HN.out;omega
 clear hF hS ha
 obtain⟨i0,hi,hz0,hz1,hz2⟩:=info_parts info_edge
 have hmx:100≤maxLen:=by decide
 go_enter Tryz.func51,Tryz.ntmps51
 go_wp2_with fail
 obtain⟨w1,hw1⟩:∃W,(w.alloc (.cells #[.slice ba n bcap,.int .i64 vals] 26)).alloc (.cells #[] 155)=W:=⟨_,rfl⟩
 have B1:Hid (Below w.heap.size w w1):=by show Below _ _ _;rw[←hw1];repeat (first | exact Below.refl _ _ | apply Below.drew | refine Below.alloc ?_ (by simp <;> omega) _ | refine Below.setCell ?_ (by simp <;> omega) _)
 have O1:Hid (OwnEdges w1 w.heap.size (.slice (some ⟨w.heap.size+1,0,none⟩) 0 0) []):=by show OwnEdges _ _ _ _;rw[←hw1];exact ownEdges_new (by simp) (by omega)
 have X1:Hid (w1.heap[w.heap.size]? = some (.cells #[.slice ba n bcap,.int .i64 vals] 26 (0,0))):=by
  show _=_
  rw[←hw1,Below.heap_alloc _ _ _ (by simp)]
  exact World.alloc_heap_new w _
 rw[hw1]
 clear hw1
 refine(impl_succs _ F (a:Int) _ (HF.out.later B1.out)).mono ?_
 have HSE:Hid (succsOf F (a:Int)=succsN F a):=by
  show _=_
  rw[succsOf_yes HS.out (by omega) (by have:=HN.out;omega)]
  rfl
 rw[HSE.out]
 rintro e w2 ⟨sv,rfl,hs2,b2⟩
 have B2:Hid (Below w.heap.size w w2):=Bel.after B1.out b2
 have O2:Hid (OwnEdges w2 w.heap.size (.slice (some ⟨w.heap.size+1,0,none⟩) 0 0) []):=O1.out.keep b2
 have X2:Hid (w2.heap[w.heap.size]? = some (.cells #[.slice ba n bcap,.int .i64 vals] 26 (0,0))):=(b2.block _ (Array.getElem?_eq_some_iff.1 X1.out).1).trans X1.out
 have hs1:=B1.out.size
 have S2:Hid (OwnInts w2 w.heap.size sv (succsN F a)):=hs2.low (by omega)
 obtain⟨m,HM⟩:∃q,Hid ((succsN F a).length=q):=⟨_,rfl⟩
 have hm2:m≤2:=by rw[←HM.out];exact succsN_small F a
 obtain⟨sa,scap,rfl,hsl,_⟩:=hs2.at
 rw[HM.out] at hsl S2 ⊢
 clear hs2 b2
 by_cases hm:(m:Int)<2
 ·have HE:Hid (critFrom F a = []):=by
   show _=_
   unfold critFrom
   rw[if_neg (by have:=HM.out;omega)]
  go_wp2_with fail
  go_ret
  rw[HE.out]
  exact⟨_,rfl,O2.out,by simp,B2.out⟩
 ·have HE:Hid (critFrom F a=critSel F a (succsN F a)):=by
   show _=_
   unfold critFrom
   rw[if_pos (by have:=HM.out;omega)]
  go_wp2_with fail
  go_loopw [5,19] (fun s i wr=>∃k:Nat,k≤m∧i = .int .i64 (k:Int)∧OwnEdges wr w.heap.size s (critSel F a ((succsN F a).take k))∧s≠.slice none 0 0∧Below w.heap.size w wr∧wr.heap[w.heap.size]? = some (.cells #[.slice ba n bcap,.int .i64 vals] 26 (0,0))∧OwnInts wr w.heap.size (.slice sa m scap) (succsN F a)) (fun _ i _=>m-(intOf i).toNat)
  case atStart=>exact⟨0,Nat.zero_le _,rfl,O2.out,by simp,B2.out,X2.out,S2.out⟩
  case round=>
   obtain⟨wq,hwq⟩:∃x,x=wr:=⟨_,rfl⟩
   subst hwq
   obtain⟨k,hk,rfl,ho,hnn,hB,hbx,hsi⟩:=hrel
   have HNN:Hid (u5≠.slice none 0 0):=hnn
   have HO:Hid (OwnEdges wq w.heap.size u5 (critSel F a ((succsN F a).take k))):=ho
   have HB:Hid (Below w.heap.size w wq):=hB
   have HX:Hid (wq.heap[w.heap.size]? = some (.cells #[.slice ba n bcap,.int .i64 vals] 26 (0,0))):=hbx
   have HSI:Hid (OwnInts wq w.heap.size (.slice sa m scap) (succsN F a)):=hsi
   have c0:wq.cell? ⟨w.heap.size,0,none⟩=some (.slice ba n bcap):=by simp[World.cell?,hbx]
   have c1:wq.cell? ⟨w.heap.size,1,none⟩=some (.int .i64 vals):=by simp[World.cell?,hbx]
   have hcl:(critSel F a ((succsN F a).take k)).length≤2:=Nat.le_trans (critSel_len _ _ _) (by simp;omega)
   clear ho hB hbx hsi hnn
   by_cases hlt:(k:Int)<(m:Int)
   ·obtain⟨sb,soff,rfl,sc⟩:=IntsAt.cellsQ HSI.out.at k (by omega)
    obtain⟨sx,HSX⟩:∃q,Hid ((succsN F a).getD k 0=q):=⟨_,rfl⟩
    rw[HSX.out] at sc
    have hin:=succs_in HS.out a sx (by rw[←HSX.out];exact getD_in (by have:=HM.out;omega))
    obtain⟨s,hs⟩:∃s:Nat,sx=(s:Int):=⟨sx.toNat,by omega⟩
    subst hs
    have hsn:s<n:=by have:=HN.out;omega
    obtain⟨x,hx⟩:∃x,F.blocks[s]? = some x:=⟨_,List.getElem?_eq_getElem (by have:=HN.out;omega)⟩
    have HTK:Hid ((succsN F a).take (k+1)=(succsN F a).take k ++ [(s:Int)]):=by
     show _=_
     rw[take_next (by have:=HM.out;omega),HSX.out]
    have HPL:Hid (phiLen F s=x.phis.length):=phiLen_at hx
    obtain⟨b,off,rfl,hat⟩:=(HF.out.later HB.out).blockC HN.out hsn hx
    obtain⟨pv,lv,b0,_,_,_,_,_,hps,_⟩:=hat
    obtain⟨np,HNP⟩:∃q,Hid (x.phis.length=q):=⟨_,rfl⟩
    obtain⟨pa,pcap,rfl,hpm,_⟩:=hps
    rw[HNP.out] at b0 hpm HPL
    clear hx hin
    by_cases hp:(0:Int)<(np:Int)
    ·have HY:Hid (critTo F (s:Int)=true):=critTo_yes (.inr (by show 0<phiLen F s;rw[HPL.out];omega))
     have hp2:(np:Int) > 0:=hp
     go_wp2_with (at_builtin;refine wpList_append_own _ rfl _ _ 35 rfl w.heap.size 155 i0 (.agg #[.int .i64 0,.int .i64 0]) 2 16 Tryz.underlying35 hi hz0 hz1 hz2 rfl (by decide) _ _ _ rfl (World.ownsRow.alloc HO.out _) ⟨wq.heap.size,0,none⟩ 1 1 [.int .i64 (a:Int),.int .i64 (s:Int)] rfl rfl (cells_two_new _ _ _ _) (by simp[Value.oneCell']) (by omega) (by omega) (by have:=HB.out.size;simp;omega) ?_;intro v' wa hown' hgrow hnil;have HO':Hid (OwnEdges wa w.heap.size v' (critSel F a ((succsN F a).take k) ++ [⟨(a:Int),(s:Int)⟩])):=OwnEdges.next hown';have HG:Hid (World.grownBy _ _ _):=hgrow;have HNN2:Hid (v'≠.slice none 0 0):=fun h=>absurd (hnil.1 h).2 (by omega);clear hown' hgrow hnil)
     go_roundw
     case rel=>exact⟨k+1,by omega,by go_num,by rw[HTK.out,critSel_yes HY.out];exact HO'.out,HNN2.out,HB.out.trans (ownsRow_grown HO.out HB.out.size HG.out),box_aside HO.out HG.out HX.out (by decide),ints_aside HSI.out HO.out HG.out⟩
     case measure=>simp[intOf];omega
    ·go_wp2_with fail
     refine(impl_preds _ F (s:Int) _ (HF.out.later HB.out)).mono ?_
     have HPE:Hid (predsOf F (s:Int)=predsN F (s:Int)):=predsOf_yes HS.out (by omega) (by have:=HN.out;omega)
     rw[HPE.out]
     rintro e w3 ⟨qv,rfl,hq,b3⟩
     obtain⟨ql,HQL⟩:∃q,Hid ((predsN F (s:Int)).length=q):=⟨_,rfl⟩
     obtain⟨qa,qcap,rfl,hql,_⟩:=hq.at
     rw[HQL.out] at hql ⊢
     have HB3:Hid (Below w.heap.size w w3):=Bel.after HB.out b3
     have HO3:Hid (OwnEdges w3 w.heap.size u5 (critSel F a ((succsN F a).take k))):=HO.out.keep b3
     have HSI3:Hid (OwnInts w3 w.heap.size (.slice (some ⟨sb,soff,none⟩) m scap) (succsN F a)):=HSI.out.keep b3
     have HX3:Hid (w3.heap[w.heap.size]? = some (.cells #[.slice (some ⟨b,off,none⟩) n bcap,.int .i64 vals] 26 (0,0))):=(b3.block _ (Array.getElem?_eq_some_iff.1 HX.out).1).trans HX.out
     clear hq b3 c0 c1 sc b0
     by_cases hq1:(1:Int)<(ql:Int)
     ·have HY:Hid (critTo F (s:Int)=true):=critTo_yes (.inl (by have:=HQL.out;omega))
      have hq2:(ql:Int) > 1:=hq1
      go_wp2_with (at_builtin;refine wpList_append_own _ rfl _ _ 35 rfl w.heap.size 155 i0 (.agg #[.int .i64 0,.int .i64 0]) 2 16 Tryz.underlying35 hi hz0 hz1 hz2 rfl (by decide) _ _ _ rfl (World.ownsRow.alloc HO3.out _) ⟨w3.heap.size,0,none⟩ 1 1 [.int .i64 (a:Int),.int .i64 (s:Int)] rfl rfl (cells_two_new _ _ _ _) (by simp[Value.oneCell']) (by omega) (by omega) (by have:=HB3.out.size;simp;omega) ?_;intro v' wa hown' hgrow hnil;have HO':Hid (OwnEdges wa w.heap.size v' (critSel F a ((succsN F a).take k) ++ [⟨(a:Int),(s:Int)⟩])):=OwnEdges.next hown';have HG:Hid (World.grownBy _ _ _):=hgrow;have HNN2:Hid (v'≠.slice none 0 0):=fun h=>absurd (hnil.1 h).2 (by omega);clear hown' hgrow hnil)
      go_roundw
      case rel=>exact⟨k+1,by omega,by go_num,by rw[HTK.out,critSel_yes HY.out];exact HO'.out,HNN2.out,HB3.out.trans (ownsRow_grown HO3.out HB3.out.size HG.out),box_aside HO3.out HG.out HX3.out (by decide),ints_aside HSI3.out HO3.out HG.out⟩
      case measure=>simp[intOf];omega
     ·have HY:Hid (critTo F (s:Int)=false):=critTo_no (by have:=HQL.out;omega) (by show ¬0<phiLen F s;rw[HPL.out];omega)
      go_wp2_with fail
      go_roundw
      case rel=>exact⟨k+1,by omega,by go_num,by rw[HTK.out,critSel_no HY.out];exact HO3.out,HNN.out,HB3.out,HX3.out,HSI3.out⟩
      case measure=>simp[intOf];omega
   ·have hkm:k=m:=by omega
    subst hkm
    go_wp2_with fail
    go_ret
    rw[HE.out]
    refine⟨_,rfl,?_,HNN.out,HB.out⟩
    have h:=HO.out
    rw[List.take_of_length_le (by have:=HM.out;omega)] at h
    exact h
set_option maxRecDepth 100000 in
set_option maxHeartbeats 8000000 in
theorem impl_critical (v:Value)(F:FnD)(w:World)(hF:FnAt w v F) :
  Calls Tryz.prog 15 #[v] w fun e w'=>GivesEdges w (critOf F) e w':=by
 have HF:Hid (FnAt w v F):=hF
 obtain⟨n,HN⟩:∃n,Hid (F.blocks.length=n):=⟨_,rfl⟩
 obtain⟨vals,HV⟩:∃x,Hid (F.values=x):=⟨_,rfl⟩
 obtain⟨ba,bcap,rfl⟩:=hF.out HN.out HV.out
 clear hF
 obtain⟨i0,hi,hz0,hz1,hz2⟩:=info_parts info_edge
 have hmx:100≤maxLen:=by decide
 go_enter Tryz.func15,Tryz.ntmps15
 go_wp2_with fail
 obtain⟨w1,hw1⟩:∃W,(w.alloc (.cells #[.slice ba n bcap,.int .i64 vals] 26)).alloc (.cells #[] 155)=W:=⟨_,rfl⟩
 have B1:Hid (Below w.heap.size w w1):=by show Below _ _ _;rw[←hw1];repeat (first | exact Below.refl _ _ | apply Below.drew | refine Below.alloc ?_ (by simp <;> omega) _ | refine Below.setCell ?_ (by simp <;> omega) _)
 have O1:Hid (OwnEdges w1 w.heap.size (.slice (some ⟨w.heap.size+1,0,none⟩) 0 0) []):=by show OwnEdges _ _ _ _;rw[←hw1];exact ownEdges_new (by simp) (by omega)
 have X1:Hid (w1.heap[w.heap.size]? = some (.cells #[.slice ba n bcap,.int .i64 vals] 26 (0,0))):=by
  show _=_
  rw[←hw1,Below.heap_alloc _ _ _ (by simp)]
  exact World.alloc_heap_new w _
 rw[hw1]
 clear hw1
 refine(impl_shapeOk _ F _ (HF.out.later B1.out)).mono ?_
 rintro e w2 ⟨t,rfl,ht,b2⟩
 have B2:Hid (Below w.heap.size w w2):=Bel.after B1.out b2
 have O2:Hid (OwnEdges w2 w.heap.size (.slice (some ⟨w.heap.size+1,0,none⟩) 0 0) []):=O1.out.keep b2
 have X2:Hid (w2.heap[w.heap.size]? = some (.cells #[.slice ba n bcap,.int .i64 vals] 26 (0,0))):=(b2.block _ (Array.getElem?_eq_some_iff.1 X1.out).1).trans X1.out
 have ST:Hid (t=true↔FnShape F):=ht
 clear ht b2
 cases t with
 | false=>
  have HE:Hid (critOf F = []):=critOf_no (fun h=>by have:=ST.out.2 h;cases this)
  go_wp2_with fail
  go_ret
  rw[HE.out]
  exact⟨_,rfl,O2.out,B2.out⟩
 | true=>
  have HS:Hid (FnShape F):=ST.out.1 rfl
  have hn16:n≤16:=by have:=HS.out.2.1;have:=HN.out;omega
  have HE:Hid (critOf F=critUp F n):=by show _=_;rw[critOf_yes HS.out,HN.out]
  have c0:w2.cell? ⟨w.heap.size,0,none⟩=some (.slice ba n bcap):=by simp[World.cell?,X2.out]
  go_wp2_with fail
  clear c0
  go_loopw [3,13] (fun s i wr=>∃k:Nat,k≤n∧i = .int .i64 (k:Int)∧OwnEdges wr w.heap.size s (critUp F k)∧Below w.heap.size w wr∧wr.heap[w.heap.size]? = some (.cells #[.slice ba n bcap,.int .i64 vals] 26 (0,0))) (fun _ i _=>n-(intOf i).toNat)
  case atStart=>exact⟨0,Nat.zero_le _,rfl,O2.out,B2.out,X2.out⟩
  case round=>
   obtain⟨wq,hwq⟩:∃x,x=wr:=⟨_,rfl⟩
   subst hwq
   obtain⟨k,hk,rfl,ho,hB,hbx⟩:=hrel
   have HO:Hid (OwnEdges wq w.heap.size u3 (critUp F k)):=ho
   have HB:Hid (Below w.heap.size w wq):=hB
   have HX:Hid (wq.heap[w.heap.size]? = some (.cells #[.slice ba n bcap,.int .i64 vals] 26 (0,0))):=hbx
   have c0:wq.cell? ⟨w.heap.size,0,none⟩=some (.slice ba n bcap):=by simp[World.cell?,hbx]
   have c1:wq.cell? ⟨w.heap.size,1,none⟩=some (.int .i64 vals):=by simp[World.cell?,hbx]
   have hcl:=critUp_len F k
   clear ho hB hbx
   by_cases hlt:(k:Int)<(n:Int)
   ·go_wp2_with fail
    refine(criticalFrom_any _ F k _ (HF.out.later HB.out) HS.out (by have:=HN.out;omega)).mono ?_
    rintro e w3 ⟨qv,rfl,hq,hqn,b3⟩
    have hcf:=critFrom_len F k
    have HB3:Hid (Below w.heap.size w w3):=Bel.after HB.out b3
    have HO3:Hid (OwnEdges w3 w.heap.size u3 (critUp F k)):=HO.out.keep b3
    have HX3:Hid (w3.heap[w.heap.size]? = some (.cells #[.slice ba n bcap,.int .i64 vals] 26 (0,0))):=(b3.block _ (Array.getElem?_eq_some_iff.1 HX.out).1).trans HX.out
    obtain⟨g,gcap,hv,hgc⟩:∃g gcap,qv = .slice (some ⟨g,0,none⟩) (critFrom F k).length gcap∧∀j u,(edgeC (critFrom F k))[j]? = some u→w3.cell? ((⟨g,0,none⟩:Addr).add j)=some u:=by
     rcases hq.2 with ⟨h0,_⟩ | ⟨g,cap,cur,h0,_,hg,h1,h2,h3,h4⟩
     ·exact absurd h0 hqn
     ·refine⟨g,cap,h0,fun j u hj=>?_⟩
      have hjl:j<(critFrom F k).length*2:=by have:=(List.getElem?_eq_some_iff.1 hj).1;rw[edgeC_len] at this;exact this
      rw[←h4,List.getElem?_take_of_lt hjl] at hj
      have ea:(⟨g,0,none⟩:Addr).add j=⟨g,j,none⟩:=by cases j <;> simp[Addr.add]
      rw[ea]
      simp only[World.cell?,hg]
      simpa using hj
    subst hv
    obtain⟨fl,HFL⟩:∃q,Hid ((critFrom F k).length=q):=⟨_,rfl⟩
    have HGC:Hid (∀j u,(edgeC (critFrom F k))[j]? = some u→w3.cell? ((⟨g,0,none⟩:Addr).add j)=some u):=hgc
    have HEL:Hid ((edgeC (critFrom F k)).length=fl*2):=by show _=_;rw[edgeC_len,HFL.out]
    rw[HFL.out] at hcf ⊢
    clear hq hqn b3 hgc c0 c1
    go_wp2_with (at_builtin;refine wpList_append_own _ rfl _ _ 35 rfl w.heap.size 155 i0 (.agg #[.int .i64 0,.int .i64 0]) 2 16 Tryz.underlying35 hi hz0 hz1 hz2 rfl (by decide) _ _ _ rfl HO3.out ⟨g,0,none⟩ fl gcap (edgeC (critFrom F k)) rfl HEL.out HGC.out (by intro u hu;exact edgeC_one _ u hu) (by omega) (by omega) (by have:=HB3.out.size;omega) ?_;intro v' wa hown' hgrow hnil;have HO':Hid (OwnEdges wa w.heap.size v' (critUp F k ++ critFrom F k)):=OwnEdges.more (by rw[HFL.out];exact hown');have HG:Hid (World.grownBy _ _ _):=hgrow;clear hown' hgrow hnil)
    go_roundw
    case rel=>exact⟨k+1,by omega,by go_num,HO'.out,HB3.out.trans (ownsRow_grown0 HO3.out HB3.out.size HG.out),box_aside0 HO3.out HG.out HX3.out (by decide)⟩
    case measure=>simp[intOf];omega
   ·have hkn:k=n:=by omega
    subst hkn
    go_wp2_with fail
    go_ret
    rw[HE.out]
    exact⟨_,rfl,HO.out,HB.out⟩
end Go.Proofs.YtfnilamkapabkaaGreatDoor
