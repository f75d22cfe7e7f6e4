/- The program's needs in memory: a set for the beginning and one for the end of each block. A region that draws its order within the body of a range over a function. A scope in which the run jumps back to two labels: a law of the walk. -/
import Derived.Test.YtkbhbekfniadhaaGreatTk0
import Derived.Test.YtkbhbekfniadhaaGreatKLBk
import Derived.Test.YtkbhbekfniadhaaGreatKLDef
import Derived.Test.YtkbhbekfniadhaaGreatKSh8
import Derived.Shelf.RegionOpen
import Derived.RangeFuncNested
import Derived.OrdersIn
import Derived.Deep.RegionHeld
import Derived.ScopeJumps
import Derived.WalkMore
import Derived.Test.YtkbhbekfniadhaaGreatRows
namespace Go.Proofs.YtkbhbekfniadhaaGreat
open Go.ChangeShapes Go.WideShapes Go.ChangeAt Go.RowKit Go.Shelf
set_option linter.unusedVariables false
def Qw : Value:=.slice none 0 0
def hdr (us vs:Array Value)(k:Bool)(i:Nat):Value:=if k then us.getD i Qw else vs.getD i Qw
structure jA (w:World)(lo gI gO n:Nat)(us vs:Array Value)(ins outs:Nat→List Int):Prop where
 boxI:w.heap[gI]?=some (.cells us 74 (0,0))
 boxO:w.heap[gO]?=some (.cells vs 74 (0,0))
 sizeI:us.size=n
 sizeO:vs.size=n
 lowI:lo≤gI
 lowO:lo≤gO
 ne:gI≠gO
 rowI:∀i,i<n→ja w lo (us.getD i Qw) (ins i)
 rowO:∀i,i<n→ja w lo (vs.getD i Qw) (outs i)
 apart:∀(k k':Bool) (i i':Nat),i<n→i'<n→(k,i)≠(k',i')→∀b,(hdr us vs k i).ownBlock=some b→(hdr us vs k' i').ownBlock≠some b
theorem jA.row {w:World}{lo gI gO n:Nat}{us vs:Array Value}{ins outs:Nat→List Int}(h:jA w lo gI gO n us vs ins outs)(k:Bool){i:Nat}(hi:i<n):ja w lo (hdr us vs k i) (if k then ins i else outs i):=by
 cases k
 ·exact h.rowO i hi
 ·exact h.rowI i hi
theorem jA.ltI {w:World}{lo gI gO n:Nat}{us vs:Array Value}{ins outs:Nat→List Int}(h:jA w lo gI gO n us vs ins outs):gI<w.heap.size:=(aI h.boxI).1
theorem jA.ltO {w:World}{lo gI gO n:Nat}{us vs:Array Value}{ins outs:Nat→List Int}(h:jA w lo gI gO n us vs ins outs):gO<w.heap.size:=(aI h.boxO).1
theorem jA.notI {w:World}{lo gI gO n:Nat}{us vs:Array Value}{ins outs:Nat→List Int}(h:jA w lo gI gO n us vs ins outs)(k:Bool){i:Nat}(hi:i<n):some gI≠(hdr us vs k i).ownBlock:=Kj (h.row k hi) h.boxI (by decide)
theorem jA.notO {w:World}{lo gI gO n:Nat}{us vs:Array Value}{ins outs:Nat→List Int}(h:jA w lo gI gO n us vs ins outs)(k:Bool){i:Nat}(hi:i<n):some gO≠(hdr us vs k i).ownBlock:=Kj (h.row k hi) h.boxO (by decide)
theorem jA.lt {w:World}{lo gI gO n:Nat}{us vs:Array Value}{ins outs:Nat→List Int}(h:jA w lo gI gO n us vs ins outs)(k:Bool){i:Nat}(hi:i<n){b:Nat}(hb:(hdr us vs k i).ownBlock=some b):lo≤b∧b<w.heap.size:=(h.row k hi).lt b hb
theorem ja.ZO {w w':World}{lo:Nat}{v:Value}{l:List Int}(h:ja w lo v l)(hs:∀b,v.ownBlock=some b→w'.heap[b]?=w.heap[b]?):ja w' lo v l:=by
 rcases h with ⟨h0,h1 | ⟨g',cap,cur,rfl,h2,h3,h4⟩⟩
 ·exact⟨h0,.inl h1⟩
 ·exact⟨h0,.inr ⟨g',cap,cur,rfl,h2,(hs g' rfl).trans h3,h4⟩⟩
theorem jA.same {w w':World}{lo gI gO n:Nat}{us vs:Array Value}{ins outs:Nat→List Int}(h:jA w lo gI gO n us vs ins outs)(hI:w'.heap[gI]?=w.heap[gI]?)(hO:w'.heap[gO]?=w.heap[gO]?)(hs:∀k i b,i<n→(hdr us vs k i).ownBlock=some b→w'.heap[b]?=w.heap[b]?):jA w' lo gI gO n us vs ins outs :=
 ⟨hI.trans h.boxI,hO.trans h.boxO,h.sizeI,h.sizeO,h.lowI,h.lowO,h.ne,fun i hi=>(h.rowI i hi).ZO (fun b hb=>hs true i b hi hb),fun i hi=>(h.rowO i hi).ZO (fun b hb=>hs false i b hi hb),h.apart⟩
theorem jA.keep {w w':World}{lo gI gO n:Nat}{us vs:Array Value}{ins outs:Nat→List Int}(h:jA w lo gI gO n us vs ins outs)(hb:Below w.heap.size w w'):jA w' lo gI gO n us vs ins outs :=
 h.same (hb.block _ h.ltI) (hb.block _ h.ltO) (fun k i b hi e=>hb.block b (h.lt k hi e).2)
theorem jA.zh {w w':World}{lo gI gO n:Nat}{us vs:Array Value}{ins outs:Nat→List Int}{row:Option Nat}(h:jA w lo gI gO n us vs ins outs)(hg:w.grownBy w' row)(hr:∀r,row=some r→∃o:Obj,w.heap[r]?=some o∧o.isCells=false):jA w' lo gI gO n us vs ins outs:=by
 refine h.same ((j6 h.boxI hg hr).trans h.boxI.symm) ((j6 h.boxO hg hr).trans h.boxO.symm) (fun k i b hi e=>?_);obtain⟨c,hc⟩:=(h.row k hi).block e;exact(j6 hc hg hr).trans hc.symm
theorem Ja {us:Array Value}{b i:Nat}{v:Value}(hb:b<us.size):(us.setIfInBounds b v).getD i Qw=if i=b then v else us.getD i Qw:=by
 by_cases e:i=b
 ·subst e;simp[Array.getD,hb]
 ·have e2:¬b=i:=fun h=>e h.symm
  by_cases hi:i<us.size
  ·simp[Array.getD,hi,e,e2]
  ·simp[Array.getD,hi,e]
theorem hdr_putO {us vs:Array Value}{b:Nat}{v:Value}(hb:b<vs.size)(k:Bool)(i:Nat):hdr us (vs.setIfInBounds b v) k i=if k=false∧i=b then v else hdr us vs k i:=by
 cases k
 ·simp[hdr,Ja hb]
 ·simp[hdr]
theorem hdr_putI {us vs:Array Value}{b:Nat}{v:Value}(hb:b<us.size)(k:Bool)(i:Nat):hdr (us.setIfInBounds b v) vs k i=if k=true∧i=b then v else hdr us vs k i:=by
 cases k
 ·simp[hdr]
 ·simp[hdr,Ja hb]
theorem jA.putO {w w':World}{lo gI gO n:Nat}{us vs:Array Value}{ins outs:Nat→List Int}(h:jA w lo gI gO n us vs ins outs){b:Nat}(hb:b<n){sv':Value}{l':List Int}(ht:kr w w' gO b (vs.getD b Qw).ownBlock sv')(hr:ja w' lo sv' l')(ho:sv'.ownBlock=(vs.getD b Qw).ownBlock∨∀k,sv'.ownBlock=some k→w.heap.size≤k) :
  jA w' lo gI gO n us (vs.setIfInBounds b sv') ins (xT outs b l'):=by
 have B:b<vs.size:=by rw[h.sizeO];exact hb
 have r:∀(k:Bool) (i:Nat),i<n→¬(k=false∧i=b)→∀c,(hdr us vs k i).ownBlock=some c→sv'.ownBlock≠some c∧w'.heap[c]?=w.heap[c]?:=fun k i hi t c hc=>by
  have h1:(hdr us vs false b).ownBlock≠some c:=h.apart k false i b hi hb (fun e=>t (by cases e;exact⟨rfl,rfl⟩)) c hc;have H:=(h.lt k hi hc).2;refine⟨fun e=>?_,ht.block c H (fun e=>h.notO k hi (by rw[hc,e])) (fun e=>h1 e.symm)⟩;rcases ho with e2 | e2
  ·exact h1 (e2.symm.trans e)
  ·have:=e2 c e;omega
 refine⟨(ht.block gI h.ltI h.ne (fun e=>h.notI false hb e)).trans h.boxI,ht.box _ _ _ h.boxO,h.sizeI,by simp[h.sizeO],h.lowI,h.lowO,h.ne,fun i hi=>?_,fun i hi=>?_,fun k k' i i' hi G t c hc=>?_⟩
 ·exact(h.rowI i hi).ZO (fun c hc=>(r true i hi (fun e=>by cases e.1) c hc).2)
 ·rw[Ja B];unfold xT;by_cases e:i=b
  ·rw[if_pos e,if_pos e];exact hr
  ·rw[if_neg e,if_neg e];exact(h.rowO i hi).ZO (fun c hc=>(r false i hi (fun e2=>e e2.2) c hc).2)
 ·rw[hdr_putO B] at hc ⊢;by_cases e1:k=false∧i=b
  ·rw[if_pos e1] at hc;have e2:¬(k'=false∧i'=b):=fun e2=>t (by rw[e1.1,e1.2,e2.1,e2.2])
   rw[if_neg e2];intro e3;exact(r k' i' G e2 c e3).1 hc
  ·rw[if_neg e1] at hc;by_cases e2:k'=false∧i'=b
   ·rw[if_pos e2];exact(r k i hi e1 c hc).1
   ·rw[if_neg e2];exact h.apart k k' i i' hi G t c hc
theorem jA.putI {w w':World}{lo gI gO n:Nat}{us vs:Array Value}{ins outs:Nat→List Int}(h:jA w lo gI gO n us vs ins outs){b:Nat}(hb:b<n){sv':Value}{l':List Int}(hk:∀k,k<w.heap.size→k≠gI→w'.heap[k]?=w.heap[k]?)(hx:w'.heap[gI]?=some (.cells (us.setIfInBounds b sv') 74 (0,0)))(hr:ja w' lo sv' l')(ho:∀k,sv'.ownBlock=some k→w.heap.size≤k) :
  jA w' lo gI gO n (us.setIfInBounds b sv') vs (xT ins b l') outs:=by
 have t:b<us.size:=by rw[h.sizeI];exact hb
 have r:∀(k:Bool) (i:Nat),i<n→∀c,(hdr us vs k i).ownBlock=some c→sv'.ownBlock≠some c∧w'.heap[c]?=w.heap[c]?:=fun k i hi c hc=>by
  have H:=(h.lt k hi hc).2;exact⟨fun e=>by have:=ho c e;omega,hk c H (fun e=>h.notI k hi (by rw[hc,e]))⟩
 refine⟨hx,(hk gO h.ltO (fun e=>h.ne e.symm)).trans h.boxO,by simp[h.sizeI],h.sizeO,h.lowI,h.lowO,h.ne,fun i hi=>?_,fun i hi=>?_,fun k k' i i' hi B G c hc=>?_⟩
 ·rw[Ja t];unfold xT;by_cases e:i=b
  ·rw[if_pos e,if_pos e];exact hr
  ·rw[if_neg e,if_neg e];exact(h.rowI i hi).ZO (fun c hc=>(r true i hi c hc).2)
 ·exact(h.rowO i hi).ZO (fun c hc=>(r false i hi c hc).2)
 ·rw[hdr_putI t] at hc ⊢;by_cases e1:k=true∧i=b
  ·rw[if_pos e1] at hc;have e2:¬(k'=true∧i'=b):=fun e2=>G (by rw[e1.1,e1.2,e2.1,e2.2])
   rw[if_neg e2];intro e3;exact(r k' i' B c e3).1 hc
  ·rw[if_neg e1] at hc;by_cases e2:k'=true∧i'=b
   ·rw[if_pos e2];exact(r k i hi c hc).1
   ·rw[if_neg e2];exact h.apart k k' i i' hi B G c hc
theorem jA.setO {w:World}{lo gI gO n:Nat}{us vs:Array Value}{ins outs:Nat→List Int}(h:jA w lo gI gO n us vs ins outs){b:Nat}(hb:b<n):qc w lo gO b (vs.getD b Qw) (outs b):=by
 have r:b<vs.size:=by rw[h.sizeO];exact hb
 refine⟨by simp[World.cell?,h.boxO,Array.getD,r],by simp[World.frozen?,h.boxO],h.rowO b hb,fun e=>h.notO false hb e.symm⟩
theorem jA.cellI {w:World}{lo gI gO n:Nat}{us vs:Array Value}{ins outs:Nat→List Int}(h:jA w lo gI gO n us vs ins outs){b:Nat}(hb:b<n):w.cell? (Z gI b)=some (us.getD b Qw)∧w.frozen? (Z gI b)=false:=by
 have r:b<us.size:=by rw[h.sizeI];exact hb
 exact⟨by simp[World.cell?,h.boxI,Array.getD,r],by simp[World.frozen?,h.boxI]⟩
def onlyNormal (K:Act→World→Prop):Exit→Act→World→Prop
 | .normal,a,w=>K a w
 | _,_,_=>False
theorem ZP {F:Fence}{n:Nat}{P:Program}{c:Code}{Q:Exit→Act→World→Prop}{a:Act}{w:World}(h:c.wpIn F n P (onlyNormal (fun a w=>Q .normal a w)) a w):c.wpIn F n P Q a w :=
 wpIn_mono h (fun e a w h=>by cases e <;> first | exact h | exact h.elim)
section
variable {P:Program} {ops:Array Oper} {Q:Exit→Act→World→Prop} {md:Region.Mode}
theorem aaR {l n:Nat}{o:Oper}{a:Act}{w:World}{K:Act→World→Prop}(hd:∀c,o.op≠.defer c)(h:o.wp P a w K Q):o.wpIn (Fence.wide.inRound l) n P a w K Q:=by
 unfold Oper.wpIn;refine⟨fun _ _=>trivial,?_⟩;rw[Oper.semAt_eq _ _ _ hd];unfold Oper.wp at h;generalize (execOp a.eval o).run P w=r at *;cases r with
 | ok x w'=>
  cases x <;> simp only[Oper.upon,Oper.uponIn] at h ⊢ <;>
   first
    | exact h
    | exact⟨fun e=>by simp[Fence.wide] at e,CallsIn.inRound l (callsIn_wide.2 h)⟩
    | exact⟨fun e=>by simp[Fence.wide] at e,fun c cs _=>let ⟨v,w',r,s⟩:=h c cs;⟨v,w',r,stepsIn_wide.2 s⟩⟩
 | halt x w'=>cases x <;> simp only[Oper.upon,Oper.uponIn] at h ⊢ <;> exact h
def ad2 (ops:Array Oper):Bool:=ops.all (fun o=>match o.op with | .defer _=>false | _=>true)
theorem ac7 (h:ad2 ops=true){i:Nat}{o:Oper}(ho:ops[i]?=some o):∀c,o.op≠.defer c:=fun c hc=>by
 have:=(Array.all_eq_true_iff_forall_mem.1 h) o (Array.mem_of_getElem? ho);simp[hc] at this
theorem Yl {l n:Nat}(hd:ad2 ops=true)(ho:∀a w,¬Q .outgrown a w):∀(fuel:Nat) (li:Array Bool) (a:Act) (w:World),wpAny P md ops Q fuel li a w→wpAnyIn (Fence.wide.inRound l) n P md ops Q fuel li a w
 | 0,_,_,_,h=>h
 | fuel+1,li,a,w,h=>⟨h.1,fun i hi=>by
  have h1:=wpOp_mono (fun a' w' h'=>Yl (l:=l) (n:=n) hd ho fuel _ a' w' h') (h.2 i hi);unfold wpOp at h1;unfold wpOpIn;cases hoi:ops[i]? with
  | none=>simpa [hoi] using h1
  | some o=>
   simp only[hoi] at h1 ⊢;by_cases hw:Region.wanted o (yielded ops a.tmps)=true
   ·rw[if_pos hw] at h1 ⊢;rcases h1 with h1 | ⟨_,a0,w0,h0⟩
    ·exact aaR (ac7 hd hoi) h1
    ·exact absurd h0 (ho a0 w0)
   ·rw[if_neg hw] at h1 ⊢
    exact⟨fun _ _=>trivial,h1⟩⟩
theorem abZ {S:World→Prop}{l n id:Nat}{a:Act}{w:World}(hm:P.follows .mixedOrders=true)(hd:ad2 ops=true)(hS:S w.drew)
  (h:S w.drew→wpAnyH P .any ops (onlyNormal (fun a w=>Q .normal a w)) S ops.size (Array.replicate ops.size false) a w.drew):(Code.region id ops true).wpIn (Fence.wide.inRound l) n P Q a w :=
 ZP (wpIn_region_any hm (Yl hd (fun a w h=>h) _ _ _ _ (wpAny_of_held _ _ _ _ (h hS))))
theorem Kq {S:World→Prop}{n id:Nat}{a:Act}{w:World}(hm:P.follows .mixedOrders=true)(hS:S w.drew)
  (h:S w.drew→wpAnyH P .any ops (onlyNormal (fun a w=>Q .normal a w)) S ops.size (Array.replicate ops.size false) a w.drew):(Code.region id ops true).wpIn Fence.wide n P Q a w :=
 ZP (wpIn_wide.2 (wp_region_held_drew hm hS h))
end
def exitJumps (G:Nat→Act→World→Prop)(Q:Exit→Act→World→Prop):Exit→Act→World→Prop
 | .goto l,a,w=>G l a w
 | e,a,w=>Q e a w
theorem aeY {P:Program}{a:Act}{w:World}{Q:Exit→Act→World→Prop}{c:Code}(h:c.wp P Q a w):(Code.skip.seq c).wp P Q a w:=wp_seq (wp_skip h)
theorem ac8 {P:Program}{a:Act}{w:World}{Q:Exit→Act→World→Prop}{c r0 r1:Code}(J0 J1:Nat→Act→World→Prop)(hf0:findLabel c 0=some (Code.skip.seq r0))(hf1:findLabel c 1=some (Code.skip.seq r1))
  (first:(∀m a w,J1 m a w→r1.wp P (exitJumps (fun l a w=>(l=0∧∃m',m'<m∧J0 m' a w)∨(l=1∧∃m',m'<m∧J1 m' a w)) Q) a w)→c.wp P (exitJumps (fun l a w=>(l=0∧∃m,J0 m a w)∨(l=1∧∃m,J1 m a w)) Q) a w)
  (pass0:(∀m a w,J1 m a w→r1.wp P (exitJumps (fun l a w=>(l=0∧∃m',m'<m∧J0 m' a w)∨(l=1∧∃m',m'<m∧J1 m' a w)) Q) a w)→∀m a w,J0 m a w→r0.wp P (exitJumps (fun l a w=>(l=0∧∃m',m'<m∧J0 m' a w)∨(l=1∧∃m',m'<m∧J1 m' a w)) Q) a w)
  (pass1:∀m a w,J1 m a w→r1.wp P (exitJumps (fun l a w=>(l=0∧∃m',m'<m∧J0 m' a w)∨(l=1∧∃m',m'<m∧J1 m' a w)) Q) a w):(Code.scope c).wp P Q a w:=by
 replace first:=first pass1
 replace pass0:=pass0 pass1;intro b k cs;have h:gotoIn 0 (.inScope c::k)=some (.code (Code.skip.seq r0) :: .inScope c::k):=by simp[gotoIn,hf0]
 have r:gotoIn 1 (.inScope c::k)=some (.code (Code.skip.seq r1) :: .inScope c::k):=by simp[gotoIn,hf1]
 have key:∀n a w,(J0 n a w→∃e a' w',Q e a' w'∧Arrives P (lone (b.at a (.code (Code.skip.seq r0) :: .inScope c::k)) cs w) b k cs e a' w')∧(J1 n a w→∃e a' w',Q e a' w'∧Arrives P (lone (b.at a (.code (Code.skip.seq r1) :: .inScope c::k)) cs w) b k cs e a' w'):=by
  intro n;induction n using Nat.strongRecOn with
  | _ n ih=>
   intro a w;refine⟨fun hJ=>?_,fun hJ=>?_⟩
   ·obtain⟨e,a₁,w₁,hq,harr⟩:=aeY (pass0 n a w hJ) b (.inScope c::k) cs;cases e with
    | normal=>exact⟨.normal,a₁,w₁,hq,Steps.trans harr (.one step_inScope)⟩
    | exit id=>exact⟨.exit id,a₁,w₁,hq,fun k' hk=>harr k' (by simp[exitTo,hk])⟩
    | goto l'=>
     rcases hq with ⟨rfl,m',hlt,hJ'⟩ | ⟨rfl,m',hlt,hJ'⟩
     ·obtain⟨e₂,a₂,w₂,hq₂,harr₂⟩:=(ih m' hlt a₁ w₁).1 hJ';exact⟨e₂,a₂,w₂,hq₂,.of_steps (harr _ h) harr₂⟩
     ·obtain⟨e₂,a₂,w₂,hq₂,harr₂⟩:=(ih m' hlt a₁ w₁).2 hJ';exact⟨e₂,a₂,w₂,hq₂,.of_steps (harr _ r) harr₂⟩
    | ret=>exact⟨_,a₁,w₁,hq,harr⟩
    | panic ch=>exact⟨_,a₁,w₁,hq,harr⟩
    | outgrown=>exact⟨_,a₁,w₁,hq,harr⟩
   ·obtain⟨e,a₁,w₁,hq,harr⟩:=aeY (pass1 n a w hJ) b (.inScope c::k) cs;cases e with
    | normal=>exact⟨.normal,a₁,w₁,hq,Steps.trans harr (.one step_inScope)⟩
    | exit id=>exact⟨.exit id,a₁,w₁,hq,fun k' hk=>harr k' (by simp[exitTo,hk])⟩
    | goto l'=>
     rcases hq with ⟨rfl,m',hlt,hJ'⟩ | ⟨rfl,m',hlt,hJ'⟩
     ·obtain⟨e₂,a₂,w₂,hq₂,harr₂⟩:=(ih m' hlt a₁ w₁).1 hJ';exact⟨e₂,a₂,w₂,hq₂,.of_steps (harr _ h) harr₂⟩
     ·obtain⟨e₂,a₂,w₂,hq₂,harr₂⟩:=(ih m' hlt a₁ w₁).2 hJ';exact⟨e₂,a₂,w₂,hq₂,.of_steps (harr _ r) harr₂⟩
    | ret=>exact⟨_,a₁,w₁,hq,harr⟩
    | panic ch=>exact⟨_,a₁,w₁,hq,harr⟩
    | outgrown=>exact⟨_,a₁,w₁,hq,harr⟩
 obtain⟨e,a₁,w₁,hq,harr⟩:=first b (.inScope c::k) cs
 cases e with
 | normal=>exact⟨.normal,a₁,w₁,hq,.head step_scope (Steps.trans harr (.one step_inScope))⟩
 | exit id=>exact⟨.exit id,a₁,w₁,hq,fun k' hk=>.head step_scope (harr k' (by simp[exitTo,hk]))⟩
 | goto l'=>
  rcases hq with ⟨rfl,m',hJ'⟩ | ⟨rfl,m',hJ'⟩
  ·obtain⟨e₂,a₂,w₂,hq₂,harr₂⟩:=(key m' a₁ w₁).1 hJ';exact⟨e₂,a₂,w₂,hq₂,.of_steps (.head step_scope (harr _ h)) harr₂⟩
  ·obtain⟨e₂,a₂,w₂,hq₂,harr₂⟩:=(key m' a₁ w₁).2 hJ';exact⟨e₂,a₂,w₂,hq₂,.of_steps (.head step_scope (harr _ r)) harr₂⟩
 | ret=>exact⟨_,a₁,w₁,hq,.of_steps (.one step_scope) harr⟩
 | panic ch=>exact⟨_,a₁,w₁,hq,.of_steps (.one step_scope) harr⟩
 | outgrown=>exact⟨_,a₁,w₁,hq,.of_steps (.one step_scope) harr⟩
theorem Qb {G H:Nat→Act→World→Prop}{Q:Exit→Act→World→Prop}(h:∀l a w,G l a w→H l a w):∀e a w,exitJumps G Q e a w→exitJumps H Q e a w
 | .normal,_,_,x=>x
 | .exit _,_,_,x=>x
 | .ret,_,_,x=>x
 | .goto l,a,w,x=>h l a w x
 | .panic _,_,_,x=>x
 | .outgrown,_,_,x=>x
end Go.Proofs.YtkbhbekfniadhaaGreat
