/- A range over a function whose assignment lays a box of its own in each round: a law of the walk, over the library's steps. A range over an iterator that keeps cells of its own: its contract, and the law of the loop. -/
import Derived.Test.YtkbhbekfniadhaaGreatTk0
import Derived.RangeFuncWrites
import Derived.Test.YtkbhbekfniadhaaGreatRows
namespace Go.Proofs.YtkbhbekfniadhaaGreat
open Go.RowKit
set_option linter.unusedVariables false
variable {F:Fence} {n:Nat} {P:Program}
structure kO (D:Nat)(fn:FuncId)(tmps:Array Value)(ps:Array Tmp)(assign body:Code)(st:LoopState)(pe:Option Code)(W:World):Prop where
 calls:W.heap[D]?=some (.deferred (some []))
 loop:W.heap[D+1]?=some (.loop { state:=st,pending:=pe,fn,tmps,params:=ps,assign,body,defers:=D })
theorem kO.turn {D:Nat}{fn:FuncId}{tmps:Array Value}{ps:Array Tmp}{assign body:Code}{st st':LoopState}{pe pe':Option Code}{W:World}(h:kO D fn tmps ps assign body st pe W) :
  kO D fn tmps ps assign body st' pe' (W.putObj (D+1) (.loop { state:=st',pending:=pe',fn,tmps,params:=ps,assign,body,defers:=D })) :=
 ⟨(World.putObj_heap_other (by omega)).trans h.calls,World.putObj_heap_same (aI h.loop).1⟩
theorem kO.keep {D:Nat}{fn:FuncId}{tmps:Array Value}{ps:Array Tmp}{assign body:Code}{st:LoopState}{pe:Option Code}{W W':World}(h:kO D fn tmps ps assign body st pe W)(k:KeepsFrom D W W'):kO D fn tmps ps assign body st pe W' :=
 ⟨k.same _ _ (Nat.le_refl _) h.calls rfl,k.same _ _ (by omega) h.loop rfl⟩
theorem Xe {α:Type}{g:Operand}{ps:Array Tmp}{assign body:Code}{Q:Exit→Act→World→Prop}{a:Act}{w:World}
  (hro:F.round=none) (h1:1≤n) {gf:Nat} {lb:Array Value} (hg:a.eval g=.func (.func gf) #[] lb) (hFg:F.fn gf) (eg:∀args w,(callFunc gf args).run P w=.ok (.enter gf args) w)
  {encs:α→Array Value} {Kp:World→World→Prop} {S Sp:List α→Prop} {N:Nat} {w0:World} (hseq:SeqStopsK F (n-1) P gf lb encs Kp S Sp N w0)
  (hKt:∀{A B C:World},Kp A B→Kp B C→Kp A C) (hKb:∀(W:World) (l:Nat) (o o':Obj),w.heap.size≤l→W.heap[l]?=some o→o.isCells=false→o.isWalk=false→Kp W (W.putObj l o')) (hb0:Below w0.heap.size w0 w) (hps:∀x,(encs x).size=ps.size)
  (I:List α→World→Prop) (Ix:Code→List α→World→Prop) (A:List α→α→Act→World→Prop) (hI:OwnFrom w.heap.size I) (hIx:∀c,OwnFrom w.heap.size (Ix c)) (hA:∀pre x a₁,OwnFrom w.heap.size (fun(_:Unit) W=>A pre x a₁ W)) (h0:I [] w)
  (hassign:∀(l:Nat) (pre:List α) (x:α) (W:World) (K:Act→World→Prop),I pre W→(∀a₁ W₁,A pre x a₁ W₁→KeepsFrom w.heap.size W W₁→Kp W W₁→K a₁ W₁) →
   assign.wpIn (F.inRound l) (n-1-1) P (Exit.then K (fun _ _ _=>False)) { tmps:=(ps.zip (encs x)).foldl (fun t (p,v)=>t.setIfInBounds p v) a.tmps,defers := [] } W)
  (hbody:∀(l:Nat) (pre:List α) (x:α) (a₁:Act) (W:World),A pre x a₁ W→pre.length<N→body.wpIn (F.inRound l) (n-1-1) P (ownPostG w.heap.size Kp I Ix (pre ++ [x]) W) a₁ W)
  (hdone:∀(D:Nat) (xs:List α) (W:World),w.heap.size≤D→S xs→I xs W→W.heap[D]?=some (.deferred (some []))→Q .normal { a with defers := { target:=.collected D,args := #[] }::a.defers } W)
  (hstop:∀(D:Nat) (c:Code) (pre:List α) (W:World),w.heap.size≤D→Sp pre→Ix c pre W→W.heap[D]?=some (.deferred (some []))→c.wpIn F n P Q { a with defers := { target:=.collected D,args := #[] }::a.defers } W) :
  (Code.rangeFunc g ps assign body).wpIn F n P Q a w:=by
 refine wpIn_rangeFunc fun fn M=>?_
 rw[hro];have start:=run_enterLoop_outer (P:=P) (w:=w) fn a.tmps ps assign body;obtain⟨w1,e1⟩:∃x,(w.alloc (.deferred (some []))).alloc (.loop { state:=.ready,pending:=none,fn,tmps:=a.tmps,params:=ps,assign,body,defers:=w.heap.size })=x:=⟨_,rfl⟩;rw[e1] at start;have r1:kO w.heap.size fn a.tmps ps assign body .ready none w1:=by
  subst e1;refine⟨(Below.heap_alloc _ _ _ (by simp)).trans (World.alloc_heap_new w _),?_⟩;have h:=World.alloc_heap_new (w.alloc (.deferred (some []))) (.loop { state:=.ready,pending:=none,fn,tmps:=a.tmps,params:=ps,assign,body,defers:=w.heap.size })
  rwa [World.size_alloc] at h
 have i1:I [] w1:=by subst e1;exact hI.alloc _ (hI.alloc _ h0)
 have s1:w1.heap.size=w.heap.size+2:=by subst e1;simp
 have b1:Below w0.heap.size w0 w1:=by
  subst e1;exact hb0.trans ((((Below.refl _ w).alloc (Nat.le_refl _) _).alloc (by simp) _).mono hb0.size)
 clear e1;refine⟨w.heap.size+1,[{ target:=.collected w.heap.size,args := #[] }],w1,{ target:=.fn (.func gf) lb,args := #[.func (.yield (w.heap.size+1)) #[] #[]] },w1,gf,#[.func (.yield (w.heap.size+1)) #[] #[]] ++ lb,w1,start,?_,?_,?_,fun _=>h1,?_⟩
 ·simp only[resolve,hg];simp[go_sem]
 ·intro f' L;simp[Target.leads] at L;subst L;exact hFg
 ·simp[invoke,go_sem,eg]
 ·-- a step of the iterator's own turns neither what the caller says nor the record
  have own:∀{X Y:World} {row:Option Nat},(∀r,row=some r→w1.heap.size≤r∧∃o:Obj,X.heap[r]?=some o∧o.isWalk=true)→∀r,row=some r→w.heap.size≤r∧∃o:Obj,X.heap[r]?=some o∧o.isCells=false:=fun h r e=>by
   obtain⟨h1,o,h2,h3⟩:=h r e;exact⟨by omega,o,h2,Obj.not_cells_of_walk h3⟩
  have J:∀{st:LoopState} {pe:Option Code} {X Y:World} {row:Option Nat},kO w.heap.size fn a.tmps ps assign body st pe X→X.grownBy Y row→(∀r,row=some r→w1.heap.size≤r∧∃o:Obj,X.heap[r]?=some o∧o.isWalk=true)→kO w.heap.size fn a.tmps ps assign body st pe Y:=fun h G hr=>
   ⟨(grownBy_keeps G (fun r e=>(hr r e).2) h.calls rfl).trans h.calls,(grownBy_keeps G (fun r e=>(hr r e).2) h.loop rfl).trans h.loop⟩
  refine(hseq (w.heap.size+1) (fun pre W=>I pre W∧kO w.heap.size fn a.tmps ps assign body .ready none W) (fun pre W=>∃c,Ix c pre W∧kO w.heap.size fn a.tmps ps assign body .done (some c) W) w1 b1
   (fun s X Y row hs G hr=>⟨hI s X Y row hs.1 G (own (Y:=Y) hr),J hs.2 G hr⟩)
   (fun s X Y row hs G hr=>hs.elim fun c hc=>⟨c,hIx c s X Y row hc.1 G (own (Y:=Y) hr),J hc.2 G hr⟩) ?_ ⟨i1,r1⟩).mono ?_
  ·rintro pre x W ⟨hi,hl⟩ hlen;refine⟨fn,_,assign,body,run_yield (P:=P) (args:=encs x) hl.loop (hps x),roundIn_of_wpIn M (hassign _ pre x W _ hi fun a₁ W₁ ha O U=>?_)⟩;have l1:=hl.keep O;refine⟨_,run_beginRound l1.loop rfl,?_⟩;have l2:=l1.turn (st':=.busy) (pe':=none);have V:Kp W (W₁.putObj (w.heap.size+1) (.loop { state:=.busy,pending:=none,fn,tmps:=a.tmps,params:=ps,assign,body,defers:=w.heap.size })):=hKt U (hKb _ _ _ _ (by omega) l1.loop rfl rfl);refine wpIn_mono (hbody _ pre x a₁ _ ((hA pre x a₁).putObj (s:=()) _ ha (by omega) l1.loop rfl) hlen) ?_;intro e a3 W3 hp;cases e with
   | normal=>
    obtain⟨H,hkp3,hi3⟩:=hp;have l3:=l2.keep H;exact⟨_,_,run_endRound none l3.loop,.inl ⟨rfl,⟨hI.putObj _ hi3 (by omega) l3.loop rfl,l3.turn⟩,hKt (hKt V hkp3) (hKb _ _ _ _ (by omega) l3.loop rfl rfl)⟩⟩
   | ret=>
    obtain⟨H,hi3⟩:=hp;have l3:=l2.keep H;exact⟨_,_,run_endRound (some .ret) l3.loop,.inr ⟨rfl,.ret,(hIx _).putObj _ hi3 (by omega) l3.loop rfl,l3.turn⟩⟩
   | exit id=>
    obtain⟨H,hi3⟩:=hp;have l3:=l2.keep H;exact⟨_,_,run_endRound (some (.exit id)) l3.loop,.inr ⟨rfl,.exit id,(hIx _).putObj _ hi3 (by omega) l3.loop rfl,l3.turn⟩⟩
   | goto t=>
    obtain⟨H,hi3⟩:=hp;have l3:=l2.keep H;exact⟨_,_,run_endRound (some (.goto t)) l3.loop,.inr ⟨rfl,.goto t,(hIx _).putObj _ hi3 (by omega) l3.loop rfl,l3.turn⟩⟩
   | panic ch=>exact hp.elim
   | outgrown=>exact hp.elim
  ·rintro e W2 ⟨⟨v,rfl⟩,(⟨xs,hS,hi,hl⟩ | ⟨pre,hSp,c,hi,hl⟩)⟩
   ·exact⟨none,_,run_endLoop hl.loop (by simp),hdone _ xs _ (Nat.le_refl _) hS (hI.putObj _ hi (by omega) hl.loop rfl) ((World.putObj_heap_other (by omega)).trans hl.calls)⟩
   ·exact⟨some c,_,run_endLoop hl.loop (by simp),hstop _ c pre _ (Nat.le_refl _) hSp ((hIx c).putObj _ hi (by omega) hl.loop rfl) ((World.putObj_heap_other (by omega)).trans hl.calls)⟩
variable {F:Fence} {n:Nat} {P:Program}
structure jZ (x B:Nat)(W W':World):Prop where
 size:W.heap.size≤W'.heap.size
 same:∀(k:Nat) (o:Obj),W.heap[k]?=some o→k≠x→(B≤k∨o.isCells=true)→W'.heap[k]?=some o
theorem jZ.refl (x B:Nat)(W:World):jZ x B W W:=⟨Nat.le_refl _,fun _ _ h _ _=>h⟩
theorem jZ.trans {x B:Nat}{X Y Z:World}(h:jZ x B X Y)(k:jZ x B Y Z):jZ x B X Z:=⟨Nat.le_trans h.size k.size,fun i o h1 h2 h3=>k.same i o (h.same i o h1 h2 h3) h2 h3⟩
theorem jZ.mono {x B B':Nat}{X Y:World}(h:jZ x B X Y)(hb:B≤B'):jZ x B' X Y:=⟨h.size,fun i o h1 h2 h3=>h.same i o h1 h2 (h3.elim (fun h=>.inl (by omega)) .inr)⟩
theorem jZ.below {x B:Nat}{X Y:World}(h:Below X.heap.size X Y):jZ x B X Y:=⟨h.size,fun i o h1 _ _=>(h.block i (aI h1).1).trans h1⟩
theorem jZ.put {x B l:Nat}{X:World}{o:Obj}(o':Obj)(hl:l<B)(hX:X.heap[l]?=some o)(hc:o.isCells=false):jZ x B X (X.putObj l o'):=by
 refine⟨by simp,fun i u h1 _ h3=>?_⟩;by_cases e:i=l
 ·subst e;rw[hX] at h1;cases h1
  rcases h3 with h3 | h3
  ·omega
  ·rw[hc] at h3;cases h3
 ·exact(World.putObj_heap_other e).trans h1
theorem jZ.setCell {x B:Nat}{X:World}(o:Nat)(v:Value):jZ x B X (X.setCell (Z x o) v):=by
 refine⟨by show _≤(X.heap.modify _ _).size;simp,fun i u h1 h2 _=>?_⟩;exact(Below.heap_setCell _ _ _ i (by intro e;exact h2 e)).trans h1
theorem jZ.cell {x B:Nat}{X Y:World}(h:jZ x B X Y){p:Addr}{v:Value}(hp:p.block≠x)(hc:X.cell? p=some v):Y.cell? p=some v:=by
 unfold World.cell? at hc ⊢;cases e:X.heap[p.block]? with
 | none=>rw[e] at hc;cases hc
 | some o=>
  rw[e] at hc;cases o with
  | cells c t z=>rw[h.same _ _ e hp (.inr rfl)];exact hc
  | _=>cases hc
theorem jZ.box {x B:Nat}{X Y:World}(h:jZ x B X Y){b:Nat}{c:Array Value}{t:TypeId}{z:Nat × Nat}(hp:b≠x)(hc:X.heap[b]?=some (.cells c t z)):Y.heap[b]?=some (.cells c t z):=h.same _ _ hc hp (.inr rfl)
def ahr {α:Type}(F:Fence)(n:Nat)(P:Program)(g:Nat)(lb:Array Value)(encs:α→Array Value)(Dt:α→World→Prop)(S:List α→World→Prop)(x N:Nat)(w:World):Prop :=
 ∀(l:Nat) (J Jx:List α→World→Prop) (W:World),Below w.heap.size w W→x<W.heap.size →
  (∀s A B,J s A→Below W.heap.size A B→J s B)→OwnFrom W.heap.size Jx →
  (∀pre y W1,J pre W1→Dt y W1→pre.length<N→YieldAt F (n-1) P l (encs y) W1 fun e W'=>
   (e=.returned (.bool true)∧J (pre ++ [y]) W'∧jZ x W.heap.size W1 W')∨(e=.returned (.bool false)∧Jx (pre ++ [y]) W'∧jZ x W.heap.size W1 W')) →
  J [] W →
  CallsIn F n P g (#[.func (.yield l) #[] #[]] ++ lb) W fun e W'=>(∃v,e=.returned v)∧((∃xs,S xs W'∧J xs W')∨(∃pre,Jx pre W'))
def postX {α:Type}(x B:Nat)(I:List α→World→Prop)(Ix:Code→List α→World→Prop)(xs:List α)(W:World):Exit→Act→World→Prop
 | .normal,_,W'=>jZ x B W W'∧I xs W'
 | .ret,_,W'=>jZ x B W W'∧Ix .ret xs W'
 | .exit id,_,W'=>jZ x B W W'∧Ix (.exit id) xs W'
 | .goto t,_,W'=>jZ x B W W'∧Ix (.goto t) xs W'
 | .panic _,_,_=>False
 | .outgrown,_,_=>False
theorem yA {α:Type}{g:Operand}{ps:Array Tmp}{assign body:Code}{Q:Exit→Act→World→Prop}{a:Act}{w:World}
  (hro:F.round=none) (h1:1≤n) {gf:Nat} {lb:Array Value} (hg:a.eval g=.func (.func gf) #[] lb) (hFg:F.fn gf) (eg:∀args w,(callFunc gf args).run P w=.ok (.enter gf args) w)
  {encs:α→Array Value} {Dt:α→World→Prop} {S:List α→World→Prop} {N x:Nat} {w0:World} (hseq:ahr F (n-1) P gf lb encs Dt S x N w0) (hb0:Below w0.heap.size w0 w) (hx:x<w.heap.size) (hps:∀y,(encs y).size=ps.size)
  (I:List α→World→Prop) (Ix:Code→List α→World→Prop) (A:List α→α→Act→World→Prop) (hI:∀s X Y,I s X→Below w.heap.size X Y→I s Y) (hIx:∀c,OwnFrom w.heap.size (Ix c)) (hA:∀pre y a₁,OwnFrom w.heap.size (fun(_:Unit) W=>A pre y a₁ W)) (hS:OwnFrom w.heap.size S) (h0:I [] w)
  (hassign:∀(l:Nat) (pre:List α) (y:α) (W:World) (K:Act→World→Prop),I pre W→Dt y W→(∀a₁ W₁,A pre y a₁ W₁→jZ x w.heap.size W W₁→K a₁ W₁) →
   assign.wpIn (F.inRound l) (n-1-1) P (Exit.then K (fun _ _ _=>False)) { tmps:=(ps.zip (encs y)).foldl (fun t (p,v)=>t.setIfInBounds p v) a.tmps,defers := [] } W)
  (hbody:∀(l:Nat) (pre:List α) (y:α) (a₁:Act) (W:World),A pre y a₁ W→pre.length<N→body.wpIn (F.inRound l) (n-1-1) P (postX x w.heap.size I Ix (pre ++ [y]) W) a₁ W)
  (hdone:∀(D:Nat) (xs:List α) (W:World),w.heap.size≤D→S xs W→I xs W→W.heap[D]?=some (.deferred (some []))→Q .normal { a with defers := { target:=.collected D,args := #[] }::a.defers } W)
  (hstop:∀(D:Nat) (c:Code) (pre:List α) (W:World),w.heap.size≤D→Ix c pre W→W.heap[D]?=some (.deferred (some []))→c.wpIn F n P Q { a with defers := { target:=.collected D,args := #[] }::a.defers } W) :
  (Code.rangeFunc g ps assign body).wpIn F n P Q a w:=by
 refine wpIn_rangeFunc fun fn aa=>?_
 rw[hro];have start:=run_enterLoop_outer (P:=P) (w:=w) fn a.tmps ps assign body;obtain⟨w1,e1⟩:∃x,(w.alloc (.deferred (some []))).alloc (.loop { state:=.ready,pending:=none,fn,tmps:=a.tmps,params:=ps,assign,body,defers:=w.heap.size })=x:=⟨_,rfl⟩;rw[e1] at start;have r1:kO w.heap.size fn a.tmps ps assign body .ready none w1:=by
  subst e1;refine⟨(Below.heap_alloc _ _ _ (by simp)).trans (World.alloc_heap_new w _),?_⟩;have h:=World.alloc_heap_new (w.alloc (.deferred (some []))) (.loop { state:=.ready,pending:=none,fn,tmps:=a.tmps,params:=ps,assign,body,defers:=w.heap.size })
  rwa [World.size_alloc] at h
 have O:Below w.heap.size w w1:=by subst e1;exact((Below.refl _ w).alloc (Nat.le_refl _) _).alloc (by simp) _
 have i1:I [] w1:=hI _ _ _ h0 O;have s1:w1.heap.size=w.heap.size+2:=by subst e1;simp
 have b1:Below w0.heap.size w0 w1:=hb0.trans (O.mono hb0.size);clear e1;refine⟨w.heap.size+1,[{ target:=.collected w.heap.size,args := #[] }],w1,{ target:=.fn (.func gf) lb,args := #[.func (.yield (w.heap.size+1)) #[] #[]] },w1,gf,#[.func (.yield (w.heap.size+1)) #[] #[]] ++ lb,w1,start,?_,?_,?_,fun _=>h1,?_⟩
 ·simp only[resolve,hg];simp[go_sem]
 ·intro f' U;simp[Target.leads] at U;subst U;exact hFg
 ·simp[invoke,go_sem,eg]
 ·have put:∀{X:World} {l:Nat} {o:Obj} (o':Obj),w.heap.size≤l→X.heap[l]?=some o→Below w.heap.size X (X.putObj l o'):=fun {X l o} o' h1 h2=>
   (Below.refl w.heap.size X).grown (grownBy_putObj' X l o') (by have:=(aI h2).1;omega) (fun j e=>by cases e;exact h1)
  have M:∀{st:LoopState} {pe:Option Code} {X Y:World},kO w.heap.size fn a.tmps ps assign body st pe X→Below w1.heap.size X Y→kO w.heap.size fn a.tmps ps assign body st pe Y:=fun h hb=>
   ⟨(hb.block _ (by omega)).trans h.calls,(hb.block _ (by omega)).trans h.loop⟩
  have G:∀{st:LoopState} {pe:Option Code} {X Y:World},kO w.heap.size fn a.tmps ps assign body st pe X→jZ x w.heap.size X Y→kO w.heap.size fn a.tmps ps assign body st pe Y:=fun h hb=>
   ⟨hb.same _ _ h.calls (by omega) (.inl (Nat.le_refl _)),hb.same _ _ h.loop (by omega) (.inl (by omega))⟩
  have L:∀{st:LoopState} {pe:Option Code} {X Y:World} {row:Option Nat},kO w.heap.size fn a.tmps ps assign body st pe X→X.grownBy Y row→(∀r,row=some r→w1.heap.size≤r∧∃o:Obj,X.heap[r]?=some o∧o.isCells=false)→kO w.heap.size fn a.tmps ps assign body st pe Y:=fun h H hr=>
   ⟨(H.block _ (aI h.calls).1 (fun e=>by have:=(hr _ e.symm).1;omega)).trans h.calls,(H.block _ (aI h.loop).1 (fun e=>by have:=(hr _ e.symm).1;omega)).trans h.loop⟩
  refine(hseq (w.heap.size+1) (fun pre W=>I pre W∧kO w.heap.size fn a.tmps ps assign body .ready none W) (fun pre W=>∃c,Ix c pre W∧kO w.heap.size fn a.tmps ps assign body .done (some c) W) w1 b1 (by omega)
   (fun s X Y hs hb=>⟨hI s X Y hs.1 (hb.mono (by omega)),M hs.2 hb⟩)
   (fun s X Y row hs H hr=>hs.elim fun c hc=>⟨c,hIx c s X Y row hc.1 H (fun r e=>⟨by have:=(hr r e).1;omega,(hr r e).2⟩),L hc.2 H hr⟩) ?_ ⟨i1,r1⟩).mono ?_
  ·rintro pre y W ⟨hi,hl⟩ hd hlen;refine⟨fn,_,assign,body,run_yield (P:=P) (args:=encs y) hl.loop (hps y),roundIn_of_wpIn aa (hassign _ pre y W _ hi hd fun a₁ W₁ ha V=>?_)⟩;have l1:=G hl V;refine⟨_,run_beginRound l1.loop rfl,?_⟩;have l2:=l1.turn (st':=.busy) (pe':=none);have J:jZ x w1.heap.size W (W₁.putObj (w.heap.size+1) (.loop { state:=.busy,pending:=none,fn,tmps:=a.tmps,params:=ps,assign,body,defers:=w.heap.size })):=(V.mono (by omega)).trans (jZ.put _ (by omega) l1.loop rfl);refine wpIn_mono (hbody _ pre y a₁ _ ((hA pre y a₁).putObj (s:=()) _ ha (by omega) l1.loop rfl) hlen) ?_;intro e a3 W3 hp;cases e with
   | normal=>
    obtain⟨B,hi3⟩:=hp;have l3:=G l2 B;exact⟨_,_,run_endRound none l3.loop,.inl ⟨rfl,⟨hI _ _ _ hi3 (put _ (by omega) l3.loop),l3.turn⟩,(J.trans (B.mono (by omega))).trans (jZ.put _ (by omega) l3.loop rfl)⟩⟩
   | ret=>
    obtain⟨B,hi3⟩:=hp;have l3:=G l2 B;exact⟨_,_,run_endRound (some .ret) l3.loop,.inr ⟨rfl,⟨.ret,(hIx _).putObj _ hi3 (by omega) l3.loop rfl,l3.turn⟩,(J.trans (B.mono (by omega))).trans (jZ.put _ (by omega) l3.loop rfl)⟩⟩
   | exit id=>
    obtain⟨B,hi3⟩:=hp;have l3:=G l2 B;exact⟨_,_,run_endRound (some (.exit id)) l3.loop,.inr ⟨rfl,⟨.exit id,(hIx _).putObj _ hi3 (by omega) l3.loop rfl,l3.turn⟩,(J.trans (B.mono (by omega))).trans (jZ.put _ (by omega) l3.loop rfl)⟩⟩
   | goto t=>
    obtain⟨B,hi3⟩:=hp;have l3:=G l2 B;exact⟨_,_,run_endRound (some (.goto t)) l3.loop,.inr ⟨rfl,⟨.goto t,(hIx _).putObj _ hi3 (by omega) l3.loop rfl,l3.turn⟩,(J.trans (B.mono (by omega))).trans (jZ.put _ (by omega) l3.loop rfl)⟩⟩
   | panic ch=>exact hp.elim
   | outgrown=>exact hp.elim
  ·rintro e W2 ⟨⟨v,rfl⟩,(⟨xs,hSx,hi,hl⟩ | ⟨pre,c,hi,hl⟩)⟩
   ·exact⟨none,_,run_endLoop hl.loop (by simp),hdone _ xs _ (Nat.le_refl _) (hS.putObj _ hSx (by omega) hl.loop rfl) (hI _ _ _ hi (put _ (by omega) hl.loop)) ((World.putObj_heap_other (by omega)).trans hl.calls)⟩
   ·exact⟨some c,_,run_endLoop hl.loop (by simp),hstop _ c pre _ (Nat.le_refl _) ((hIx c).putObj _ hi (by omega) hl.loop rfl) ((World.putObj_heap_other (by omega)).trans hl.calls)⟩
def SeqOrd {α:Type}(F:Fence)(n:Nat)(P:Program)(g:Nat)(lb:Array Value)(encs:α→Array Value)(Kp:World→World→Prop)(Od:List α→α→Prop)(S:List α→Prop)(w:World):Prop :=
 ∀(l:Nat) (J Jx:List α→World→Prop) (W:World),Below w.heap.size w W→AbidesFrom W.heap.size J→AbidesFrom W.heap.size Jx →
  (∀pre x W1,J pre W1→Od pre x→YieldAt F (n-1) P l (encs x) W1 fun e W'=>
   (e=.returned (.bool true)∧J (pre ++ [x]) W'∧Kp W1 W')∨(e=.returned (.bool false)∧Jx (pre ++ [x]) W')) →
  J [] W →
  CallsIn F n P g (#[.func (.yield l) #[] #[]] ++ lb) W fun e W'=>(∃v,e=.returned v)∧((∃xs,S xs∧J xs W')∨(∃pre,Jx pre W'))
theorem Xf {α:Type}{g:Operand}{ps:Array Tmp}{assign body:Code}{Q:Exit→Act→World→Prop}{a:Act}{w:World}
  (hro:F.round=none) (h1:1≤n) {gf:Nat} {lb:Array Value} (hg:a.eval g=.func (.func gf) #[] lb) (hFg:F.fn gf) (eg:∀args w,(callFunc gf args).run P w=.ok (.enter gf args) w)
  {encs:α→Array Value} {Kp:World→World→Prop} {Od:List α→α→Prop} {S:List α→Prop} {w0:World} (hseq:SeqOrd F (n-1) P gf lb encs Kp Od S w0)
  (hKt:∀{A B C:World},Kp A B→Kp B C→Kp A C) (hKb:∀(W:World) (l:Nat) (o o':Obj),w.heap.size≤l→W.heap[l]?=some o→o.isCells=false→o.isWalk=false→Kp W (W.putObj l o')) (hb0:Below w0.heap.size w0 w) (hps:∀x,(encs x).size=ps.size)
  (I:List α→World→Prop) (Ix:Code→List α→World→Prop) (A:List α→α→Act→World→Prop) (hI:OwnFrom w.heap.size I) (hIx:∀c,OwnFrom w.heap.size (Ix c)) (hA:∀pre x a₁,OwnFrom w.heap.size (fun(_:Unit) W=>A pre x a₁ W)) (h0:I [] w)
  (hassign:∀(l:Nat) (pre:List α) (x:α) (W:World) (K:Act→World→Prop),I pre W→Od pre x→(∀a₁ W₁,A pre x a₁ W₁→KeepsFrom w.heap.size W W₁→Kp W W₁→K a₁ W₁) →
   assign.wpIn (F.inRound l) (n-1-1) P (Exit.then K (fun _ _ _=>False)) { tmps:=(ps.zip (encs x)).foldl (fun t (p,v)=>t.setIfInBounds p v) a.tmps,defers := [] } W)
  (hbody:∀(l:Nat) (pre:List α) (x:α) (a₁:Act) (W:World),A pre x a₁ W→body.wpIn (F.inRound l) (n-1-1) P (ownPostG w.heap.size Kp I Ix (pre ++ [x]) W) a₁ W)
  (hdone:∀(D:Nat) (xs:List α) (W:World),w.heap.size≤D→S xs→I xs W→W.heap[D]?=some (.deferred (some []))→Q .normal { a with defers := { target:=.collected D,args := #[] }::a.defers } W)
  (hstop:∀(D:Nat) (c:Code) (pre:List α) (W:World),w.heap.size≤D→Ix c pre W→W.heap[D]?=some (.deferred (some []))→c.wpIn F n P Q { a with defers := { target:=.collected D,args := #[] }::a.defers } W) :
  (Code.rangeFunc g ps assign body).wpIn F n P Q a w:=by
 refine wpIn_rangeFunc fun fn M=>?_
 rw[hro];have start:=run_enterLoop_outer (P:=P) (w:=w) fn a.tmps ps assign body;obtain⟨w1,e1⟩:∃x,(w.alloc (.deferred (some []))).alloc (.loop { state:=.ready,pending:=none,fn,tmps:=a.tmps,params:=ps,assign,body,defers:=w.heap.size })=x:=⟨_,rfl⟩;rw[e1] at start;have r1:kO w.heap.size fn a.tmps ps assign body .ready none w1:=by
  subst e1;refine⟨(Below.heap_alloc _ _ _ (by simp)).trans (World.alloc_heap_new w _),?_⟩;have h:=World.alloc_heap_new (w.alloc (.deferred (some []))) (.loop { state:=.ready,pending:=none,fn,tmps:=a.tmps,params:=ps,assign,body,defers:=w.heap.size })
  rwa [World.size_alloc] at h
 have i1:I [] w1:=by subst e1;exact hI.alloc _ (hI.alloc _ h0)
 have s1:w1.heap.size=w.heap.size+2:=by subst e1;simp
 have b1:Below w0.heap.size w0 w1:=by
  subst e1;exact hb0.trans ((((Below.refl _ w).alloc (Nat.le_refl _) _).alloc (by simp) _).mono hb0.size)
 clear e1;refine⟨w.heap.size+1,[{ target:=.collected w.heap.size,args := #[] }],w1,{ target:=.fn (.func gf) lb,args := #[.func (.yield (w.heap.size+1)) #[] #[]] },w1,gf,#[.func (.yield (w.heap.size+1)) #[] #[]] ++ lb,w1,start,?_,?_,?_,fun _=>h1,?_⟩
 ·simp only[resolve,hg];simp[go_sem]
 ·intro f' L;simp[Target.leads] at L;subst L;exact hFg
 ·simp[invoke,go_sem,eg]
 ·-- a step of the iterator's own turns neither what the caller says nor the record
  have own:∀{X Y:World} {row:Option Nat},(∀r,row=some r→w1.heap.size≤r∧∃o:Obj,X.heap[r]?=some o∧o.isWalk=true)→∀r,row=some r→w.heap.size≤r∧∃o:Obj,X.heap[r]?=some o∧o.isCells=false:=fun h r e=>by
   obtain⟨h1,o,h2,h3⟩:=h r e;exact⟨by omega,o,h2,Obj.not_cells_of_walk h3⟩
  have J:∀{st:LoopState} {pe:Option Code} {X Y:World} {row:Option Nat},kO w.heap.size fn a.tmps ps assign body st pe X→X.grownBy Y row→(∀r,row=some r→w1.heap.size≤r∧∃o:Obj,X.heap[r]?=some o∧o.isWalk=true)→kO w.heap.size fn a.tmps ps assign body st pe Y:=fun h G hr=>
   ⟨(grownBy_keeps G (fun r e=>(hr r e).2) h.calls rfl).trans h.calls,(grownBy_keeps G (fun r e=>(hr r e).2) h.loop rfl).trans h.loop⟩
  refine(hseq (w.heap.size+1) (fun pre W=>I pre W∧kO w.heap.size fn a.tmps ps assign body .ready none W) (fun pre W=>∃c,Ix c pre W∧kO w.heap.size fn a.tmps ps assign body .done (some c) W) w1 b1
   (fun s X Y row hs G hr=>⟨hI s X Y row hs.1 G (own (Y:=Y) hr),J hs.2 G hr⟩)
   (fun s X Y row hs G hr=>hs.elim fun c hc=>⟨c,hIx c s X Y row hc.1 G (own (Y:=Y) hr),J hc.2 G hr⟩) ?_ ⟨i1,r1⟩).mono ?_
  ·rintro pre x W ⟨hi,hl⟩ hod;refine⟨fn,_,assign,body,run_yield (P:=P) (args:=encs x) hl.loop (hps x),roundIn_of_wpIn M (hassign _ pre x W _ hi hod fun a₁ W₁ ha O U=>?_)⟩;have l1:=hl.keep O;refine⟨_,run_beginRound l1.loop rfl,?_⟩;have l2:=l1.turn (st':=.busy) (pe':=none);have V:Kp W (W₁.putObj (w.heap.size+1) (.loop { state:=.busy,pending:=none,fn,tmps:=a.tmps,params:=ps,assign,body,defers:=w.heap.size })):=hKt U (hKb _ _ _ _ (by omega) l1.loop rfl rfl);refine wpIn_mono (hbody _ pre x a₁ _ ((hA pre x a₁).putObj (s:=()) _ ha (by omega) l1.loop rfl)) ?_;intro e a3 W3 hp;cases e with
   | normal=>
    obtain⟨H,hkp3,hi3⟩:=hp;have l3:=l2.keep H;exact⟨_,_,run_endRound none l3.loop,.inl ⟨rfl,⟨hI.putObj _ hi3 (by omega) l3.loop rfl,l3.turn⟩,hKt (hKt V hkp3) (hKb _ _ _ _ (by omega) l3.loop rfl rfl)⟩⟩
   | ret=>
    obtain⟨H,hi3⟩:=hp;have l3:=l2.keep H;exact⟨_,_,run_endRound (some .ret) l3.loop,.inr ⟨rfl,.ret,(hIx _).putObj _ hi3 (by omega) l3.loop rfl,l3.turn⟩⟩
   | exit id=>
    obtain⟨H,hi3⟩:=hp;have l3:=l2.keep H;exact⟨_,_,run_endRound (some (.exit id)) l3.loop,.inr ⟨rfl,.exit id,(hIx _).putObj _ hi3 (by omega) l3.loop rfl,l3.turn⟩⟩
   | goto t=>
    obtain⟨H,hi3⟩:=hp;have l3:=l2.keep H;exact⟨_,_,run_endRound (some (.goto t)) l3.loop,.inr ⟨rfl,.goto t,(hIx _).putObj _ hi3 (by omega) l3.loop rfl,l3.turn⟩⟩
   | panic ch=>exact hp.elim
   | outgrown=>exact hp.elim
  ·rintro e W2 ⟨⟨v,rfl⟩,(⟨xs,hS,hi,hl⟩ | ⟨pre,c,hi,hl⟩)⟩
   ·exact⟨none,_,run_endLoop hl.loop (by simp),hdone _ xs _ (Nat.le_refl _) hS (hI.putObj _ hi (by omega) hl.loop rfl) ((World.putObj_heap_other (by omega)).trans hl.calls)⟩
   ·exact⟨some c,_,run_endLoop hl.loop (by simp),hstop _ c pre _ (Nat.le_refl _) ((hIx c).putObj _ hi (by omega) hl.loop rfl) ((World.putObj_heap_other (by omega)).trans hl.calls)⟩
theorem ahs {F:Fence}(hd:F.depth=none)(k:Nat):F.room k:=fun d h=>by rw[hd] at h;cases h
theorem ade {F:Fence}(hd:F.depth=none){m:Nat}(m':Nat){P:Program}{l:Nat}{args:Array Value}{W:World}{R:Ending→World→Prop}(h:YieldAt F m P l args W R):YieldAt F m' P l args W R:=by
 obtain⟨fn,tmps,assign,body,hy,hR⟩:=h;exact⟨fn,tmps,assign,body,hy,⟨hR.1,fun c cs _=>hR.2 c cs (ahs hd _)⟩⟩
end Go.Proofs.YtkbhbekfniadhaaGreat
