/- The program's needs begin: two rows of empty sets, and the box that names them, in whatever order they are laid. -/
import Derived.Test.YtkbhbekfniadhaaGreatTkK
import Derived.Test.YtkbhbekfniadhaaGreatTk0
import Derived.Test.YtkbhbekfniadhaaGreatKLG
import Derived.Test.YtkbhbekfniadhaaGreatKTo
import Derived.Test.YtkbhbekfniadhaaGreatKLNd
import Derived.Deep.MidRow
set_option maxRecDepth 100000
set_option maxHeartbeats 8000000
namespace Go.Proofs.YtkbhbekfniadhaaGreat
open Go.ChangeShapes Go.WideShapes Go.ChangeAt Go.RowKit Go.Shelf
set_option linter.unusedVariables false
theorem xC (n:Nat)(hn:n≤1048576)(w:World) :
  (Instr.makeSlice 61 (vi (n:Int)) (vi (n:Int))).run Tryz.prog w=.ok (sq w.heap.size 0 n n) (w.alloc (.cells (madeCells #[.slice none 0 0] n) 74)):=by
 have h:=aeB (z:=.agg #[.slice none 0 0]) (size:=1) (bytes:=24) Tryz.underlying61 (by kernel_rfl) n (by omega) (by omega) w;rw[Nat.mul_one] at h;exact h
theorem madeL (n i:Nat):(madeCells #[.slice none 0 0] n).getD i Qw=Qw:=by
 have:madeCells #[Value.slice none 0 0] n=(List.replicate n (Value.slice none 0 0)).toArray:=by
  apply Array.toList_inj.1
  rw[toList_madeCells_one]
 rw[this];by_cases h:i<n <;> simp[Array.getD,h,Qw]
theorem abn (n:Nat):(madeCells #[.slice none 0 0] n).size=n:=by
 rw[←Array.length_toList,toList_madeCells_one];simp
theorem ownNil (w:World)(lo:Nat):ja w lo Qw []:=⟨rfl,.inl ⟨rfl,rfl⟩⟩
def afJ (w:World)(X:Nat)(a b:Value):World:=(w.setCell (Z X 0) a).setCell (Z X 1) b
theorem aeZ {w:World}{X:Nat}{t:TypeId}(h:w.heap[X]?=some (.cells #[.slice none 0 0,.slice none 0 0] t (0,0)))(a b:Value):(afJ w X a b).heap[X]?=some (.cells #[a,b] t (0,0)):=by
 simp[afJ,World.setCell,Array.getElem?_modify,h]
theorem xd {w:World}{X k:Nat}(h:k≠X)(a b:Value):(afJ w X a b).heap[k]?=w.heap[k]? :=
 (Below.heap_setCell _ _ _ k (by intro e;exact h e)).trans (Below.heap_setCell _ _ _ k (by intro e;exact h e))
theorem ac9 (w:World)(X:Nat)(a b:Value):(afJ w X a b).heap.size=w.heap.size:=by
 simp[afJ,World.setCell]
theorem Jb {w:World}{X g o:Nat}{a b:Value}(h:g≠X):(afJ w X a b).cell? (Z g o)=w.cell? (Z g o):=World.cell?_of_block (xd h a b)
section
variable {P:Program} {Q:Exit→Act→World→Prop} {o:Oper} {a:Act} {w:World} {K:Act→World→Prop}
theorem Jc {X:Nat}{p x:Operand}{u v:Value}(h:w.heap[X]?=some (.cells #[.slice none 0 0,.slice none 0 0] 63 (0,0)))(ho:o.op=.store 63 p x)(hd:o.dst=none)(hp:a.eval p=.pointer (some (Z X 0)))(hx:a.eval x=.agg #[u,v])(hu:u.oneCell'=true)(hv:v.oneCell'=true)(hk:K a (afJ w X u v)):o.wp Tryz.prog a w K Q:=by
 have ht:w.there X 0 (#[u,v]:Array Value).size:=fun j hj=>by
  have r:j<2:=hj;refine⟨?_,by simp[World.frozen?,h]⟩
  match j,r with
  | 0,_=>simp[World.cell?,h]
  | 1,_=>simp[World.cell?,h]
 refine wp_store_mid 63 p x ho X 0 #[u,v] hp hx ht (by kernel_rfl) (by simp[hu,hv]) ?_;rw[hd];exact hk
end
def aho (w wA:World)(gI gO X n:Nat)(w':World):Prop :=
 jA w' w.heap.size gI gO n (madeCells #[.slice none 0 0] n) (madeCells #[.slice none 0 0] n) (fun _=>[]) (fun _=>[])∧w'.heap[X]?=some (.cells #[sq gI 0 n n,sq gO 0 n n] 63 (0,0))∧w.heap.size+2≤X∧gI≠X∧gO≠X∧w.heap.size+2≤gI∧w.heap.size+2≤gO∧Below w.heap.size w w'∧(∀k,k<w.heap.size+2→w'.heap[k]?=wA.heap[k]?)
theorem Jd {w wA u:World}{gI gO X n:Nat}(hI:u.heap[gI]?=some (.cells (madeCells #[.slice none 0 0] n) 74 (0,0)))(hO:u.heap[gO]?=some (.cells (madeCells #[.slice none 0 0] n) 74 (0,0)))(hX:u.heap[X]?=some (.cells #[.slice none 0 0,.slice none 0 0] 63 (0,0)))
  (h1:gI≠gO) (h2:gI≠X) (h3:gO≠X) (lI:w.heap.size+2≤gI) (lO:w.heap.size+2≤gO) (lX:w.heap.size+2≤X) (hb:Below w.heap.size w u) (hf:∀k,k<w.heap.size+2→u.heap[k]?=wA.heap[k]?):aho w wA gI gO X n (afJ u X (sq gI 0 n n) (sq gO 0 n n)):=by
 refine⟨⟨(xd h2 _ _).trans hI,(xd h3 _ _).trans hO,abn n,abn n,by omega,by omega,h1,fun i _=>?_,fun i _=>?_,fun k k' i i' _ _ _ b hb=>?_⟩,aeZ hX _ _,lX,h2,h3,lI,lO,⟨hb.os,hb.tape,hb.output,by rw[ac9];exact hb.size,fun k hk=>(xd (by omega) _ _).trans (hb.block k hk)⟩,fun k hk=>(xd (by omega) _ _).trans (hf k hk)⟩
 ·rw[madeL];exact ownNil _ _
 ·rw[madeL];exact ownNil _ _
 ·exfalso;unfold hdr at hb;split at hb <;> (rw[madeL] at hb;simp[Qw,Value.ownBlock] at hb)
structure afK (F:FnD)(w w':World)(n gI gO X:Nat)(ba:Option Addr)(bcap:Nat)(vals:Int)(ins outs:Nat→List Int):Prop where
 needs:∃us vs,jA w' w.heap.size gI gO n us vs ins outs
 ok:ad1 F ins
 out:∀b,Asc (outs b)∧JZ (outs b)∧∀v∈outs b,v∈yT F ins b
 bel:Below w.heap.size w w'
 box:w'.heap[X]?=some (.cells #[sq gI 0 n n,sq gO 0 n n] 63 (0,0))
 fbox:w'.heap[w.heap.size]?=some (.cells #[.slice ba n bcap,vi vals] 26 (0,0))
 res:w'.heap[w.heap.size+1]?=some (.cells #[.slice none 0 0,.slice none 0 0] 63 (0,0))
 far:gI≠X∧gO≠X∧w.heap.size+2≤gI∧w.heap.size+2≤gO∧w.heap.size+2≤X
theorem out_new {F:FnD}{ins outs:Nat→List Int}{b:Nat}(h:∀v∈outs b,v∈yT F ins b):qT (outs b ++ yO ins (succsN F b))=yT F ins b:=by
 unfold yT at h ⊢;refine XR (yF _) (yF _) (fun v=>?_);rw[qM,qM];constructor
 ·rintro⟨h1,h2⟩;rcases List.mem_append.1 h1 with h1 | h1
  ·exact(qM _ v).1 (h v h1)
  ·exact⟨h1,h2⟩
 ·rintro⟨h1,h2⟩;exact⟨List.mem_append.2 (.inr h1),h2⟩
theorem afK.step {F:FnD}{w u u':World}{n gI gO X:Nat}{ba:Option Addr}{bcap:Nat}{vals:Int}{ins outs:Nat→List Int}(h:afK F w u n gI gO X ba bcap vals ins outs){b:Nat}{us' vs':Array Value}(hN:jA u' w.heap.size gI gO n us' vs' (xT ins b (inF F ins b)) (xT outs b (yT F ins b)))(hb:Below w.heap.size u u')
  (hk:∀(k:Nat) (c:Array Value) (t:TypeId) (z:Nat × Nat),u.heap[k]?=some (.cells c t z)→t≠3→k≠gI→k≠gO→u'.heap[k]?=some (.cells c t z)):afK F w u' n gI gO X ba bcap vals (xT ins b (inF F ins b)) (xT outs b (yT F ins b)):=by
 obtain⟨f1,f2,f3,f4,f5⟩:=h.far;have r:∀i,∀v∈ins i,v∈xT ins b (inF F ins b) i:=fun i v hv=>by
  unfold xT;split
  ·rename_i e;subst e;exact h.ok.grow i v hv
  ·exact hv
 refine⟨⟨us',vs',hN⟩,h.ok.step b,fun i=>?_,h.bel.trans hb,hk X _ _ _ h.box (by decide) f1.symm f2.symm,hk _ _ _ _ h.fbox (by decide) (by omega) (by omega),hk _ _ _ _ h.res (by decide) (by omega) (by omega),h.far⟩;unfold xT;split
 ·rename_i e
  subst e;exact⟨yF _,Qp _,ZM F r i⟩
 ·exact⟨(h.out i).1,(h.out i).2.1,fun v hv=>ZM F r i v ((h.out i).2.2 v hv)⟩
def afL (w:World)(F:FnD)(n:Nat)(e:Ending)(w':World):Prop :=
 ∃gI gO us vs,e=.returned (.agg #[sq gI 0 n n,sq gO 0 n n])∧jA w' w.heap.size gI gO n us vs (qz F) (yT F (qz F))∧Below w.heap.size w w'
theorem ZQ (v:Value)(F:FnD)(w:World)(hF:kJ w v F)(n:Nat)(hn0:F.blocks.length=n)(hn1:1≤n)(hn2:n≤16)(hT:∀(j:Nat) x,F.blocks[j]?=some x→Qq x)(hsu:∀(j:Nat),∀s∈succsN F j,0≤s∧s<n) :
  Calls Tryz.prog 39 #[v] w fun e w'=>afL w F n e w':=by
 have HF:Hid (kJ w v F):=hF;have HN:Hid (F.blocks.length=n):=hn0;obtain⟨vals,HV⟩:∃x,Hid (F.values=x):=⟨_,rfl⟩;obtain⟨ba,bcap,rfl⟩:=hF.out HN.out HV.out;have HT:Hid (∀(j:Nat) x,F.blocks[j]?=some x→Qq x):=hT;have ct:Hid (∀(j:Nat),∀s∈succsN F j,0≤s∧s<n):=hsu;have hn:n≤1048576:=by omega
 obtain⟨wA,hwA⟩:∃wA,(w.alloc (.cells #[.slice ba n bcap,vi vals] 26)).alloc (.cells #[.slice none 0 0,.slice none 0 0] 63)=wA:=⟨_,rfl⟩;have zA:Below w.heap.size w wA:=by rw[←hwA];repeat (first | exact Below.refl _ _ | apply Below.drew | refine Below.alloc ?_ (by simp <;> omega) _ | refine Below.setCell ?_ (by simp <;> omega) _)
 have sA:wA.heap.size=w.heap.size+2:=by rw[←hwA];simp
 have fA:wA.heap[w.heap.size]?=some (.cells #[.slice ba n bcap,vi vals] 26 (0,0)):=by rw[←hwA,Below.heap_alloc _ _ _ (by simp)];exact World.alloc_heap_new w _
 have rA:wA.heap[w.heap.size+1]?=some (.cells #[.slice none 0 0,.slice none 0 0] 63 (0,0)):=by
  rw[←hwA];have:=World.alloc_heap_new (w.alloc (.cells #[.slice ba n bcap,vi vals] 26)) (.cells #[.slice none 0 0,.slice none 0 0] 63)
  rwa [World.size_alloc] at this
 have FA:Hid (wA.heap[w.heap.size]?=some (.cells #[.slice ba n bcap,vi vals] 26 (0,0))):=fA;have RA:Hid (wA.heap[w.heap.size+1]?=some (.cells #[.slice none 0 0,.slice none 0 0] 63 (0,0))):=rA;have cA:wA.cell? (Z w.heap.size 0)=some (.slice ba n bcap):=(je fA 0).trans rfl;clear hF hn0 hT hsu fA rA;go_enter Tryz.func39,Tryz.ntmps39
 go_wp2_with fail
 try rw[hwA]
 clear hwA;refine ac8 (r0 := ?r0) (r1 := ?r1) (fun m a w'=>∃(gI gO X:Nat) (ins outs:Nat→List Int) (u4 u5 ai u16 u17 u18 u19 u20 u21 u22 u23 u24 u25 u26 u27:Value),a = { tmps := #[.agg #[.slice ba n bcap,vi vals],.pointer (some (Z w.heap.size 0)),.pointer (some (Z (w.heap.size+1) 0)),.pointer (some (Z X 0)),u4,u5,.pointer (some (Z w.heap.size 0)),.slice ba n bcap,vi n,sq gI 0 n n,.pointer (some (Z w.heap.size 0)),.slice ba n bcap,vi n,sq gO 0 n n,.agg #[sq gI 0 n n,sq gO 0 n n],ai,u16,u17,u18,u19,u20,u21,u22,u23,u24,u25,u26,u27],defers := [] }∧afK F w w' n gI gO X ba bcap vals ins outs∧m=JD n ins*17+n) (fun m a w'=>∃(gI gO X c:Nat) (g:Bool) (ins outs:Nat→List Int) (ai u16 u17 u18 u19 u20 u21 u22 u23 u24 u25 u26 u27:Value),a = { tmps := #[.agg #[.slice ba n bcap,vi vals],.pointer (some (Z w.heap.size 0)),.pointer (some (Z (w.heap.size+1) 0)),.pointer (some (Z X 0)),vi ((c:Int)+1),.bool g,.pointer (some (Z w.heap.size 0)),.slice ba n bcap,vi n,sq gI 0 n n,.pointer (some (Z w.heap.size 0)),.slice ba n bcap,vi n,sq gO 0 n n,.agg #[sq gI 0 n n,sq gO 0 n n],ai,u16,u17,u18,u19,u20,u21,u22,u23,u24,u25,u26,u27],defers := [] }∧afK F w w' n gI gO X ba bcap vals ins outs∧c<n∧(g=false→∀i,c<i→i<n→inF F ins i=ins i∧outs i=yT F ins i)∧m=JD n ins*17+(if g then 17 else 0)+c) ?hf0 ?hf1 ?first ?pass0 ?pass1
 case hf0=>rfl
 case hf1=>rfl
 case pass1=>
  rintro m a u ⟨gI,gO,X,c,g,ins,outs,ai,u16,u17,u18,u19,u20,u21,u22,u23,u24,u25,u26,u27,rfl,L,hc,hrd,rfl⟩;obtain⟨us,vs,hN⟩:=L.needs;have ce:c<F.blocks.length:=by rw[HN.out];exact hc
  obtain⟨x,HX⟩:∃x,Hid (F.blocks[c]?=some x):=⟨F.blocks[c],List.getElem?_eq_getElem ce⟩;have hG:=afH w _ F HF.out n HN.out HT.out ct.out gI gO us vs ins outs c hc u L.bel hN (fun i=>⟨L.ok.asc i,L.ok.small i⟩) (fun i=>⟨(L.out i).1,(L.out i).2.1⟩) x HX.out;rw[out_new (L.out c).2.2,←aiM HX.out] at hG;have bf:Hid (afK F w u n gI gO X ba bcap vals ins outs):=L;have cd:Hid (g=false→∀i,c<i→i<n→inF F ins i=ins i∧outs i=yT F ins i):=hrd;obtain⟨bb,HBB⟩:∃z,Hid (decide ((ins c).length<(inF F ins c).length)=z):=⟨_,rfl⟩;have HG:Hid (Calls Tryz.prog 65 #[.agg #[sq gI 0 n n,sq gO 0 n n],.agg #[.slice ba n bcap,vi vals],vi c] u fun e w'=>ZN w u gI gO n c ins outs (yT F ins c) (inF F ins c) e w'):=hG;have q0:u.cell? (Z X 0)=some (sq gI 0 n n):=(je L.box 0).trans rfl;have q1:u.cell? (Z X 1)=some (sq gO 0 n n):=(je L.box 1).trans rfl;have f0:u.cell? (Z w.heap.size 0)=some (.slice ba n bcap):=(je L.fbox 0).trans rfl;have f1:u.cell? (Z w.heap.size 1)=some (vi vals):=(je L.fbox 1).trans rfl;obtain⟨cg,hl2⟩:=L.ok.longer c;have ch:(inF F ins c).length≤80:=xB (Qa F ins c).1 (Qa F ins c).2;have bi:=aeW (n:=n) (ins:=ins) hc (l:=inF F ins c) cg ch;have be:Hid (JD n (xT ins c (inF F ins c))+((inF F ins c).length-(ins c).length)=JD n ins):=bi;have bU:Hid ((inF F ins c).length≤(ins c).length→inF F ins c=ins c):=hl2;clear L hrd hG hN ce cg hl2 ch bi;by_cases cv:(0:Int)<(c:Int)
  ·have e1:(c:Int)=((c-1:Nat):Int)+1:=by omega
   have E1:Hid ((c:Int)=((c-1:Nat):Int)+1):=e1
   have cc : Hid (0 < c) := by have h9 : 0 < c := by omega
                               exact h9
   clear e1;cases bb
   all_goals (
    go_wp2_with (go_at_call 65;refine HG.out.mono ?_;rintro e u2 ⟨b1,vs2,rfl,hN2,hb2,hk2⟩;rw[HBB.out];have ax:Hid (afK F w u2 n gI gO X ba bcap vals (xT ins c (inF F ins c)) (xT outs c (yT F ins c))):=bf.out.step hN2 hb2 hk2;clear hN2 hb2 hk2)
    go_step3)
   ·rw[E1.out];have hlen:=HBB.out;have hle:(inF F ins c).length≤(ins c).length:=by have h9:=of_decide_eq_false hlen;omega
    have heq:=bU.out hle;have t:=ax.out;rw[heq,Ko] at t;refine .inr ⟨rfl,_,?_,gI,gO,X,c-1,g,ins,xT outs c (yT F ins c),_,_,_,_,_,_,_,_,_,_,_,_,_,rfl,t,by omega,fun hg i h1 h2=>?_,rfl⟩
    ·have:=cc.out;omega
    ·by_cases e:i=c
     ·subst e;exact⟨heq,Kn _ _ _⟩
     ·have h3:=cd.out hg i (by omega) h2;exact⟨h3.1,(KG _ _ e).trans h3.2⟩
   ·rw[E1.out];have hlen:=of_decide_eq_true HBB.out;refine .inr ⟨rfl,_,?_,gI,gO,X,c-1,true,_,_,_,_,_,_,_,_,_,_,_,_,_,_,_,rfl,ax.out,by omega,fun hg=>(by cases hg),rfl⟩;have:=be.out;have:=cc.out;cases g <;> simp <;> omega
  ·have cf:c=0:=by omega
   have cs:Hid (c=0):=cf;have cG:¬(c:Int) > 0:=cv;clear cf;cases bb
   ·cases g
    ·go_wp2_with (go_at_call 65;refine HG.out.mono ?_;rintro e u2 ⟨b1,vs2,rfl,hN2,hb2,hk2⟩;rw[HBB.out];have ax:Hid (afK F w u2 n gI gO X ba bcap vals (xT ins c (inF F ins c)) (xT outs c (yT F ins c))):=bf.out.step hN2 hb2 hk2;have k0:u2.cell? (Z X 0)=some (sq gI 0 n n):=(je ax.out.box 0).trans rfl;have k1:u2.cell? (Z X 1)=some (sq gO 0 n n):=(je ax.out.box 1).trans rfl;have k2:u2.cell? (Z (w.heap.size+1) 0)=some (.slice none 0 0):=(je ax.out.res 0).trans rfl;have k3:u2.cell? (Z (w.heap.size+1) 1)=some (.slice none 0 0):=(je ax.out.res 1).trans rfl;have k4:u2.frozen? (Z (w.heap.size+1) 0)=false:=(by simp[World.frozen?,ax.out.res]);have k5:u2.frozen? (Z (w.heap.size+1) 1)=false:=(by simp[World.frozen?,ax.out.res]);clear hN2 hb2 hk2)
     have hle:(inF F ins c).length≤(ins c).length:=by have h9:=of_decide_eq_false HBB.out;omega
     have heq:=bU.out hle;have t:=ax.out;rw[heq,Ko] at t;have bv:∀i,i<n→inF F ins i=ins i∧xT outs c (yT F ins c) i=yT F ins i:=fun i hi=>by
      by_cases e:i=c
      ·subst e;exact⟨heq,Kn _ _ _⟩
      ·have h3:=cd.out (by simp) i (by have:=cs.out;omega) hi;exact⟨h3.1,(KG _ _ e).trans h3.2⟩
     have bE:ins=qz F:=t.ok.eq (fun b hb=>(bv b (by rw[←HN.out];exact hb)).1);obtain⟨cr,vs3,hN3⟩:=t.needs;obtain⟨g1,g2,g3,g4,g5⟩:=t.far;have ci:(afJ u2 (w.heap.size+1) (sq gI 0 n n) (sq gO 0 n n)).heap[w.heap.size+1]?=some (.cells #[sq gI 0 n n,sq gO 0 n n] 63 (0,0)):=aeZ t.res _ _;have cu:jA (afJ u2 (w.heap.size+1) (sq gI 0 n n) (sq gO 0 n n)) w.heap.size gI gO n cr vs3 (qz F) (yT F (qz F)):=by
      have h5:=hN3.same (w':=afJ u2 (w.heap.size+1) (sq gI 0 n n) (sq gO 0 n n)) (xd (by omega) _ _) (xd (by omega) _ _) (fun k i b hi hb=>xd (fun e=>Kj (hN3.row k hi) t.res (by decide) (by rw[←e];exact hb.symm)) _ _);rw[bE] at h5 bv;exact⟨h5.boxI,h5.boxO,h5.sizeI,h5.sizeO,h5.lowI,h5.lowO,h5.ne,h5.rowI,fun i hi=>by have h6:=h5.rowO i hi;rw[(bv i hi).2] at h6;exact h6,h5.apart⟩
     have bY:Below w.heap.size w (afJ u2 (w.heap.size+1) (sq gI 0 n n) (sq gO 0 n n)):=⟨t.bel.os,t.bel.tape,t.bel.output,by rw[ac9];exact t.bel.size,fun k hk=>(xd (by omega) _ _).trans (t.bel.block k hk)⟩;have cj:=(je ci 0).trans rfl;have ck:=(je ci 1).trans rfl;simp only[afJ] at cj ck;simp only[exitJumps];refine bodyPost_ret (v:=.agg #[sq gI 0 n n,sq gO 0 n n]) (by simp[results,Tryz.results39,go_sem,cj,ck]) rfl ?_;exact⟨gI,gO,cr,vs3,rfl,cu,bY⟩
    ·go_wp2_with (go_at_call 65;refine HG.out.mono ?_;rintro e u2 ⟨b1,vs2,rfl,hN2,hb2,hk2⟩;rw[HBB.out];have ax:Hid (afK F w u2 n gI gO X ba bcap vals (xT ins c (inF F ins c)) (xT outs c (yT F ins c))):=bf.out.step hN2 hb2 hk2;clear hN2 hb2 hk2)
     go_step3
     have hle:(inF F ins c).length≤(ins c).length:=by have h9:=of_decide_eq_false HBB.out;omega
     have heq:=bU.out hle;have t:=ax.out;rw[heq,Ko] at t;refine .inl ⟨rfl,_,?_,gI,gO,X,ins,xT outs c (yT F ins c),_,_,_,_,_,_,_,_,_,_,_,_,_,_,_,rfl,t,rfl⟩;simp;omega
   ·go_wp2_with (go_at_call 65;refine HG.out.mono ?_;rintro e u2 ⟨b1,vs2,rfl,hN2,hb2,hk2⟩;rw[HBB.out];have ax:Hid (afK F w u2 n gI gO X ba bcap vals (xT ins c (inF F ins c)) (xT outs c (yT F ins c))):=bf.out.step hN2 hb2 hk2;clear hN2 hb2 hk2)
    go_step3
    have hlen:=of_decide_eq_true HBB.out;refine .inl ⟨rfl,_,?_,gI,gO,X,_,_,_,_,_,_,_,_,_,_,_,_,_,_,_,_,_,rfl,ax.out,rfl⟩;have:=be.out;cases g <;> simp <;> omega
 case pass0=>
  rintro bZ m a u ⟨gI,gO,X,ins,outs,u4,u5,ai,u16,u17,u18,u19,u20,u21,u22,u23,u24,u25,u26,u27,rfl,L,rfl⟩;have f0:u.cell? (Z w.heap.size 0)=some (.slice ba n bcap):=(je L.fbox 0).trans rfl;have bf:Hid (afK F w u n gI gO X ba bcap vals ins outs):=L
  have E1 : Hid ((n : Int) = ((n - 1 : Nat) : Int) + 1) := by have h9 : (n : Int) = ((n - 1 : Nat) : Int) + 1 := by omega
                                                              exact h9
  clear L;go_wp2_with fail
  go_step3
  simp only[Exit.then]
  rename_i hK8
  refine hK8 _ _ ?_;refine Code.wp_mono (Qb (fun l a w h=>?_)) (bZ (JD n ins*17+(n-1)) _ _ ?_)
  ·rcases h with ⟨h1,m',h2,h3⟩ | ⟨h1,m',h2,h3⟩
   ·exact .inl ⟨h1,m',by omega,h3⟩
   ·exact .inr ⟨h1,m',by omega,h3⟩
  ·rw[E1.out];exact⟨gI,gO,X,n-1,false,ins,outs,_,_,_,_,_,_,_,_,_,_,_,_,_,rfl,bf.out,by omega,fun _ i h1 h2=>absurd h2 (by omega),by simp⟩
 case first=>
  intro bZ;go_wp2_with fail
  refine Code.wp_mono (Q:=onlyNormal fun a' w'=>∃gI gO X,a' = { tmps := #[.agg #[.slice ba n bcap,vi vals],.pointer (some (Z w.heap.size 0)),.pointer (some (Z (w.heap.size+1) 0)),.pointer (some (Z X 0)),undef,undef,.pointer (some (Z w.heap.size 0)),.slice ba n bcap,vi n,sq gI 0 n n,.pointer (some (Z w.heap.size 0)),.slice ba n bcap,vi n,sq gO 0 n n,.agg #[sq gI 0 n n,sq gO 0 n n],undef,undef,undef,undef,undef,undef,undef,undef,undef,undef,undef,undef,undef],defers := [] }∧aho w wA gI gO X n w') ?after ?region
  case after=>
   rintro e a' u h;cases e with
   | normal=>
    obtain⟨gI,gO,X,rfl,hNd,hX,f5,f1,f2,f3,f4,hbl,hkp⟩:=h;have L:afK F w u n gI gO X ba bcap vals (fun _=>[]) (fun _=>[]):=⟨⟨_,_,hNd⟩,abl F,fun b=>⟨adZ,fun x hx=>(by cases hx),fun v hv=>(by cases hv)⟩,hbl,hX,(hkp _ (by omega)).trans FA.out,(hkp _ (by omega)).trans RA.out,f1,f2,f3,f4,f5⟩;have f0:u.cell? (Z w.heap.size 0)=some (.slice ba n bcap):=(je L.fbox 0).trans rfl;have bf:Hid (afK F w u n gI gO X ba bcap vals (fun _=>[]) (fun _=>[])):=L
    have E1 : Hid ((n : Int) = ((n - 1 : Nat) : Int) + 1) := by have h9 : (n : Int) = ((n - 1 : Nat) : Int) + 1 := by omega
                                                                exact h9
    clear L hNd hX hbl hkp;simp only[Exit.then]
    go_at_K
    go_wp2_with fail
    go_step3
    simp only[Exit.then]
    go_at_K
    go_wp2_with fail
    go_step3
    simp only[Exit.then]
    rename_i hK8
    refine hK8 _ _ ?_;refine Code.wp_mono (Qb (fun l a w h=>?_)) (bZ (JD n (fun _=>[])*17+(n-1)) _ _ ?_)
    ·rcases h with ⟨h1,m',h2,h3⟩ | ⟨h1,m',h2,h3⟩
     ·exact .inl ⟨h1,m',h3⟩
     ·exact .inr ⟨h1,m',h3⟩
    ·rw[E1.out];exact⟨gI,gO,X,n-1,false,_,_,_,_,_,_,_,_,_,_,_,_,_,_,_,rfl,bf.out,by omega,fun _ i h1 h2=>absurd h2 (by omega),by simp⟩
   | _=>exact h.elim
  case region=>
   refine wp_region_held_drew (S:=fun w'=>w'.cell? (Z w.heap.size 0)=some (.slice ba n bcap)) (by kernel_rfl) cA (fun hHeld=>?_);refine tkA 0 ⟨some 6,.fieldAddr 26 (.tmp 1) 0,0,"l11_live.go:58",#[],none⟩ ?_ (fun w h=>?_) ?_;rotate_left
   ·(try dsimp only at h);go_simp;(try with_reducible rfl)
   try simp only[Act.put,sT,sZ,sS]
   refine tkA 1 ⟨some 7,.load 24 (.tmp 6),24,"l11_live.go:58",#[⟨0,.data⟩],none⟩ ?_ (fun w h=>?_) ?_;rotate_left
   ·(try dsimp only at h);go_simp;(try with_reducible rfl)
   try simp only[Act.put,sT,sZ,sS]
   refine tkA 2 ⟨some 8,.call ⟨.builtin .len,#[.tmp 7],#[24]⟩,3,"l11_live.go:58",#[⟨1,.data⟩],none⟩ ?_ (fun w h=>?_) ?_;rotate_left
   ·(try dsimp only at h);go_simp;(try with_reducible rfl)
   try simp only[Act.put,sT,sZ,sS]
   refine tkA 4 ⟨some 10,.fieldAddr 26 (.tmp 1) 0,0,"l11_live.go:58",#[],none⟩ ?_ (fun w h=>?_) ?_;rotate_left
   ·(try dsimp only at h);go_simp;(try with_reducible rfl)
   try simp only[Act.put,sT,sZ,sS]
   refine tkA 5 ⟨some 11,.load 24 (.tmp 10),24,"l11_live.go:58",#[⟨4,.data⟩],none⟩ ?_ (fun w h=>?_) ?_;rotate_left
   ·(try dsimp only at h);go_simp;(try with_reducible rfl)
   try simp only[Act.put,sT,sZ,sS]
   refine tkA 6 ⟨some 12,.call ⟨.builtin .len,#[.tmp 11],#[24]⟩,3,"l11_live.go:58",#[⟨5,.data⟩],none⟩ ?_ (fun w h=>?_) ?_;rotate_left
   ·(try dsimp only at h);go_simp;(try with_reducible rfl)
   try simp only[Act.put,sT,sZ,sS]
   have aw:Below w.heap.size w wA.drew:=zA.trans (Below.refl _ wA).drew;have b0:wA.drew.heap.size=w.heap.size+2:=sA;have aj:wA.drew.cell? (Z w.heap.size 0)=some (.slice ba n bcap):=cA;have a9:∀k,k<w.heap.size+2→wA.drew.heap[k]?=wA.heap[k]?:=fun _ _=>rfl
   clear hHeld;generalize wA.drew=wd at aw b0 aj a9 ⊢;refine abQ (i:=3) (i2:=7) (i3:=9) (o:=⟨some 9,.makeSlice 61 (.tmp 8) (.tmp 8),61,"l11_live.go:58",#[⟨2,.data⟩,⟨2,.data⟩],none⟩) (o2:=⟨some 13,.makeSlice 61 (.tmp 12) (.tmp 12),61,"l11_live.go:58",#[⟨6,.data⟩,⟨6,.data⟩],none⟩) (o3:=⟨some 3,.alloc 63,0,"l11_live.go:58",#[],none⟩) rfl rfl rfl rfl rfl rfl (by kernel_rfl) (fun K9 r=>?_) (fun K9 r=>?_) (fun K9 r=>?_)
   ·refine jC (v:=sq wd.heap.size 0 n n) (w':=wd.alloc (.cells (madeCells #[.slice none 0 0] n) 74)) (xy rfl rfl rfl (xC n hn wd)) (r _ _ ⟨Bel.keeps (Bel.alloc _ _) aj,?_⟩);try simp only[Act.put,sT,sZ,sS]
    obtain⟨u1,hu1⟩:∃U,wd.alloc (.cells (madeCells #[.slice none 0 0] n) 74)=U:=⟨_,rfl⟩;obtain⟨gI,hgI⟩:∃g,wd.heap.size=g:=⟨_,rfl⟩;have bm:Below wd.heap.size wd u1:=by rw[←hu1];exact Bel.alloc _ _
    have bc:Below w.heap.size w u1:=Bel.after aw bm;have cw:u1.heap.size=gI+1:=by rw[←hu1,←hgI];simp
    have G:u1.heap[gI]?=some (.cells (madeCells #[.slice none 0 0] n) 74 (0,0)):=by rw[←hu1,←hgI];exact World.alloc_heap_new wd _
    have aX:=Bel.keeps bm aj;have bF:∀k,k<w.heap.size+2→u1.heap[k]?=wA.heap[k]?:=fun k hk=>(bm.block k (by have:=aw.size;omega)).trans (a9 k hk)
    have aP:w.heap.size+2≤gI:=by omega
    rw[hu1,hgI];clear hu1 r;refine zu (i:=7) (i2:=9) (o:=⟨some 13,.makeSlice 61 (.tmp 12) (.tmp 12),61,"l11_live.go:58",#[⟨6,.data⟩,⟨6,.data⟩],none⟩) (o2:=⟨some 3,.alloc 63,0,"l11_live.go:58",#[],none⟩) rfl rfl rfl rfl (by kernel_rfl) (fun K9 r=>?_) (fun K9 r=>?_)
    ·refine jC (v:=sq u1.heap.size 0 n n) (w':=u1.alloc (.cells (madeCells #[.slice none 0 0] n) 74)) (xy rfl rfl rfl (xC n hn u1)) (r _ _ ⟨Bel.keeps (Bel.alloc _ _) aX,?_⟩);try simp only[Act.put,sT,sZ,sS]
     obtain⟨u2,hu2⟩:∃U,u1.alloc (.cells (madeCells #[.slice none 0 0] n) 74)=U:=⟨_,rfl⟩;obtain⟨gO,hgO⟩:∃g,u1.heap.size=g:=⟨_,rfl⟩;have aT:Below u1.heap.size u1 u2:=by rw[←hu2];exact Bel.alloc _ _
     have bP:Below w.heap.size w u2:=Bel.after bc aT;have cx:u2.heap.size=gO+1:=by rw[←hu2,←hgO];simp
     have aq:u2.heap[gO]?=some (.cells (madeCells #[.slice none 0 0] n) 74 (0,0)):=by rw[←hu2,←hgO];exact World.alloc_heap_new u1 _
     have bA:=Bel.keeps aT aX;have b2:∀k,k<w.heap.size+2→u2.heap[k]?=wA.heap[k]?:=fun k hk=>(aT.block k (by have:=bc.size;omega)).trans (bF k hk)
     have an:u2.heap[gI]?=some (.cells (madeCells #[.slice none 0 0] n) 74 (0,0)):=(aT.block _ (aI G).1).trans G;have ad:gI≠gO:=by have:=(aI G).1;omega
     have aQ:w.heap.size+2≤gO:=by omega
     rw[hu2,hgO];clear hu2 r;refine tkA 8 ⟨some 14,.build 63 #[(0,.tmp 9),(1,.tmp 13)],63,"l11_live.go:58",#[⟨3,.data⟩,⟨7,.data⟩],none⟩ ?_ (fun w h=>?_) ?_;rotate_left
     ·(try dsimp only at h);go_simp;(try with_reducible rfl)
     try simp only[Act.put,sT,sZ,sS]
     refine jg (i:=9) (o:=⟨some 3,.alloc 63,0,"l11_live.go:58",#[],none⟩) rfl rfl (by kernel_rfl) (fun K9 r=>?_);refine jC (v:=.pointer (some (Z u2.heap.size 0))) (w':=u2.alloc (.cells #[.slice none 0 0,.slice none 0 0] 63)) (by simp[execOp,go_sem]) (r _ _ ⟨Bel.keeps (Bel.alloc _ _) bA,?_⟩);try simp only[Act.put,sT,sZ,sS]
     obtain⟨u3,hu3⟩:∃U,u2.alloc (.cells #[.slice none 0 0,.slice none 0 0] 63)=U:=⟨_,rfl⟩;obtain⟨X,hX⟩:∃g,u2.heap.size=g:=⟨_,rfl⟩;have aF:Below u2.heap.size u2 u3:=by rw[←hu3];exact Bel.alloc _ _
     have b9:Below w.heap.size w u3:=Bel.after bP aF;have cy:u3.heap.size=X+1:=by rw[←hu3,←hX];simp
     have af:u3.heap[X]?=some (.cells #[.slice none 0 0,.slice none 0 0] 63 (0,0)):=by rw[←hu3,←hX];exact World.alloc_heap_new u2 _
     have bV:=Bel.keeps aF bA;have b3:∀k,k<w.heap.size+2→u3.heap[k]?=wA.heap[k]?:=fun k hk=>(aF.block k (by have:=bP.size;omega)).trans (b2 k hk)
     have bo:u3.heap[gI]?=some (.cells (madeCells #[.slice none 0 0] n) 74 (0,0)):=(aF.block _ (aI an).1).trans an;have aL:gI≠X:=by have:=(aI an).1;omega
     have br:u3.heap[gO]?=some (.cells (madeCells #[.slice none 0 0] n) 74 (0,0)):=(aF.block _ (aI aq).1).trans aq;have aM:gO≠X:=by have:=(aI aq).1;omega
     have lX:w.heap.size+2≤X:=by omega
     rw[hu3,hX];clear hu3 r;refine jg (i:=10) (o:=⟨none,.store 63 (.tmp 3) (.tmp 14),0,"l11_live.go:58",#[⟨9,.data⟩,⟨8,.data⟩,⟨0,.phase⟩,⟨1,.phase⟩,⟨2,.phase⟩,⟨3,.phase⟩,⟨4,.phase⟩,⟨5,.phase⟩,⟨6,.phase⟩,⟨7,.phase⟩,⟨8,.phase⟩,⟨9,.phase⟩],none⟩) rfl rfl (by kernel_rfl) (fun K9 r=>?_);have x0:u3.cell? (Z X 0)=some (.slice none 0 0):=(je af 0).trans rfl;have x1:u3.cell? (Z X 1)=some (.slice none 0 0):=(je af 1).trans rfl;have x2:∀i,u3.frozen? (Z X i)=false:=fun i=>by simp[World.frozen?,af]
     refine Jc (u:=sq gI 0 n n) (v:=sq gO 0 n n) af rfl rfl (by kernel_rfl) (by kernel_rfl) rfl rfl (r _ _ ⟨?_,?_⟩)
     ·exact(Jb (by omega)).trans bV
     ·refine wpAnyH_done (by kernel_rfl) ?_ _;exact⟨gI,gO,X,rfl,Jd bo br af ad aL aM aP aQ lX b9 b3⟩
    ·refine jC (v:=.pointer (some (Z u1.heap.size 0))) (w':=u1.alloc (.cells #[.slice none 0 0,.slice none 0 0] 63)) (by simp[execOp,go_sem]) (r _ _ ⟨Bel.keeps (Bel.alloc _ _) aX,?_⟩);try simp only[Act.put,sT,sZ,sS]
     obtain⟨u4,hu4⟩:∃U,u1.alloc (.cells #[.slice none 0 0,.slice none 0 0] 63)=U:=⟨_,rfl⟩;obtain⟨X,hX⟩:∃g,u1.heap.size=g:=⟨_,rfl⟩;have aU:Below u1.heap.size u1 u4:=by rw[←hu4];exact Bel.alloc _ _
     have bQ:Below w.heap.size w u4:=Bel.after bc aU;have cz:u4.heap.size=X+1:=by rw[←hu4,←hX];simp
     have aN:u4.heap[X]?=some (.cells #[.slice none 0 0,.slice none 0 0] 63 (0,0)):=by rw[←hu4,←hX];exact World.alloc_heap_new u1 _
     have bB:=Bel.keeps aU aX;have b4:∀k,k<w.heap.size+2→u4.heap[k]?=wA.heap[k]?:=fun k hk=>(aU.block k (by have:=bc.size;omega)).trans (bF k hk)
     have ao:u4.heap[gI]?=some (.cells (madeCells #[.slice none 0 0] n) 74 (0,0)):=(aU.block _ (aI G).1).trans G;have aL:gI≠X:=by have:=(aI G).1;omega
     have lX:w.heap.size+2≤X:=by omega
     rw[hu4,hX];clear hu4 r;refine jg (i:=7) (o:=⟨some 13,.makeSlice 61 (.tmp 12) (.tmp 12),61,"l11_live.go:58",#[⟨6,.data⟩,⟨6,.data⟩],none⟩) rfl rfl (by kernel_rfl) (fun K9 r=>?_);refine jC (v:=sq u4.heap.size 0 n n) (w':=u4.alloc (.cells (madeCells #[.slice none 0 0] n) 74)) (xy rfl rfl rfl (xC n hn u4)) (r _ _ ⟨Bel.keeps (Bel.alloc _ _) bB,?_⟩);try simp only[Act.put,sT,sZ,sS]
     obtain⟨u5,hu5⟩:∃U,u4.alloc (.cells (madeCells #[.slice none 0 0] n) 74)=U:=⟨_,rfl⟩;obtain⟨gO,hgO⟩:∃g,u4.heap.size=g:=⟨_,rfl⟩;have aG:Below u4.heap.size u4 u5:=by rw[←hu5];exact Bel.alloc _ _
     have ca:Below w.heap.size w u5:=Bel.after bQ aG;have cB:u5.heap.size=gO+1:=by rw[←hu5,←hgO];simp
     have bt:u5.heap[gO]?=some (.cells (madeCells #[.slice none 0 0] n) 74 (0,0)):=by rw[←hu5,←hgO];exact World.alloc_heap_new u4 _
     have bW:=Bel.keeps aG bB;have b5:∀k,k<w.heap.size+2→u5.heap[k]?=wA.heap[k]?:=fun k hk=>(aG.block k (by have:=bQ.size;omega)).trans (b4 k hk)
     have bp:u5.heap[gI]?=some (.cells (madeCells #[.slice none 0 0] n) 74 (0,0)):=(aG.block _ (aI ao).1).trans ao;have ad:gI≠gO:=by have:=(aI ao).1;omega
     have ag:u5.heap[X]?=some (.cells #[.slice none 0 0,.slice none 0 0] 63 (0,0)):=(aG.block _ (aI aN).1).trans aN;have aK:X≠gO:=by have:=(aI aN).1;omega
     have aQ:w.heap.size+2≤gO:=by omega
     rw[hu5,hgO];clear hu5 r;refine tkA 8 ⟨some 14,.build 63 #[(0,.tmp 9),(1,.tmp 13)],63,"l11_live.go:58",#[⟨3,.data⟩,⟨7,.data⟩],none⟩ ?_ (fun w h=>?_) ?_;rotate_left
     ·(try dsimp only at h);go_simp;(try with_reducible rfl)
     try simp only[Act.put,sT,sZ,sS]
     refine jg (i:=10) (o:=⟨none,.store 63 (.tmp 3) (.tmp 14),0,"l11_live.go:58",#[⟨9,.data⟩,⟨8,.data⟩,⟨0,.phase⟩,⟨1,.phase⟩,⟨2,.phase⟩,⟨3,.phase⟩,⟨4,.phase⟩,⟨5,.phase⟩,⟨6,.phase⟩,⟨7,.phase⟩,⟨8,.phase⟩,⟨9,.phase⟩],none⟩) rfl rfl (by kernel_rfl) (fun K9 r=>?_);have x0:u5.cell? (Z X 0)=some (.slice none 0 0):=(je ag 0).trans rfl;have x1:u5.cell? (Z X 1)=some (.slice none 0 0):=(je ag 1).trans rfl;have x2:∀i,u5.frozen? (Z X i)=false:=fun i=>by simp[World.frozen?,ag]
     refine Jc (u:=sq gI 0 n n) (v:=sq gO 0 n n) ag rfl rfl (by kernel_rfl) (by kernel_rfl) rfl rfl (r _ _ ⟨?_,?_⟩)
     ·exact(Jb (by omega)).trans bW
     ·refine wpAnyH_done (by kernel_rfl) ?_ _;exact⟨gI,gO,X,rfl,Jd bp bt ag ad aL aK.symm aP aQ lX ca b5⟩
   ·refine jC (v:=sq wd.heap.size 0 n n) (w':=wd.alloc (.cells (madeCells #[.slice none 0 0] n) 74)) (xy rfl rfl rfl (xC n hn wd)) (r _ _ ⟨Bel.keeps (Bel.alloc _ _) aj,?_⟩);try simp only[Act.put,sT,sZ,sS]
    obtain⟨u6,hu6⟩:∃U,wd.alloc (.cells (madeCells #[.slice none 0 0] n) 74)=U:=⟨_,rfl⟩;obtain⟨gO,hgO⟩:∃g,wd.heap.size=g:=⟨_,rfl⟩;have bn:Below wd.heap.size wd u6:=by rw[←hu6];exact Bel.alloc _ _
    have bd:Below w.heap.size w u6:=Bel.after aw bn;have cC:u6.heap.size=gO+1:=by rw[←hu6,←hgO];simp
    have H:u6.heap[gO]?=some (.cells (madeCells #[.slice none 0 0] n) 74 (0,0)):=by rw[←hu6,←hgO];exact World.alloc_heap_new wd _
    have aY:=Bel.keeps bn aj;have bL:∀k,k<w.heap.size+2→u6.heap[k]?=wA.heap[k]?:=fun k hk=>(bn.block k (by have:=aw.size;omega)).trans (a9 k hk)
    have aQ:w.heap.size+2≤gO:=by omega
    rw[hu6,hgO];clear hu6 r;refine zu (i:=3) (i2:=9) (o:=⟨some 9,.makeSlice 61 (.tmp 8) (.tmp 8),61,"l11_live.go:58",#[⟨2,.data⟩,⟨2,.data⟩],none⟩) (o2:=⟨some 3,.alloc 63,0,"l11_live.go:58",#[],none⟩) rfl rfl rfl rfl (by kernel_rfl) (fun K9 r=>?_) (fun K9 r=>?_)
    ·refine jC (v:=sq u6.heap.size 0 n n) (w':=u6.alloc (.cells (madeCells #[.slice none 0 0] n) 74)) (xy rfl rfl rfl (xC n hn u6)) (r _ _ ⟨Bel.keeps (Bel.alloc _ _) aY,?_⟩);try simp only[Act.put,sT,sZ,sS]
     obtain⟨u7,hu7⟩:∃U,u6.alloc (.cells (madeCells #[.slice none 0 0] n) 74)=U:=⟨_,rfl⟩;obtain⟨gI,hgI⟩:∃g,u6.heap.size=g:=⟨_,rfl⟩;have aV:Below u6.heap.size u6 u7:=by rw[←hu7];exact Bel.alloc _ _
     have bR:Below w.heap.size w u7:=Bel.after bd aV;have cD:u7.heap.size=gI+1:=by rw[←hu7,←hgI];simp
     have ap:u7.heap[gI]?=some (.cells (madeCells #[.slice none 0 0] n) 74 (0,0)):=by rw[←hu7,←hgI];exact World.alloc_heap_new u6 _
     have bC:=Bel.keeps aV aY;have b6:∀k,k<w.heap.size+2→u7.heap[k]?=wA.heap[k]?:=fun k hk=>(aV.block k (by have:=bd.size;omega)).trans (bL k hk)
     have ar:u7.heap[gO]?=some (.cells (madeCells #[.slice none 0 0] n) 74 (0,0)):=(aV.block _ (aI H).1).trans H;have ae:gO≠gI:=by have:=(aI H).1;omega
     have aP:w.heap.size+2≤gI:=by omega
     rw[hu7,hgI];clear hu7 r;refine tkA 8 ⟨some 14,.build 63 #[(0,.tmp 9),(1,.tmp 13)],63,"l11_live.go:58",#[⟨3,.data⟩,⟨7,.data⟩],none⟩ ?_ (fun w h=>?_) ?_;rotate_left
     ·(try dsimp only at h);go_simp;(try with_reducible rfl)
     try simp only[Act.put,sT,sZ,sS]
     refine jg (i:=9) (o:=⟨some 3,.alloc 63,0,"l11_live.go:58",#[],none⟩) rfl rfl (by kernel_rfl) (fun K9 r=>?_);refine jC (v:=.pointer (some (Z u7.heap.size 0))) (w':=u7.alloc (.cells #[.slice none 0 0,.slice none 0 0] 63)) (by simp[execOp,go_sem]) (r _ _ ⟨Bel.keeps (Bel.alloc _ _) bC,?_⟩);try simp only[Act.put,sT,sZ,sS]
     obtain⟨u8,hu8⟩:∃U,u7.alloc (.cells #[.slice none 0 0,.slice none 0 0] 63)=U:=⟨_,rfl⟩;obtain⟨X,hX⟩:∃g,u7.heap.size=g:=⟨_,rfl⟩;have aH:Below u7.heap.size u7 u8:=by rw[←hu8];exact Bel.alloc _ _
     have cb:Below w.heap.size w u8:=Bel.after bR aH;have cE:u8.heap.size=X+1:=by rw[←hu8,←hX];simp
     have ah:u8.heap[X]?=some (.cells #[.slice none 0 0,.slice none 0 0] 63 (0,0)):=by rw[←hu8,←hX];exact World.alloc_heap_new u7 _
     have bX:=Bel.keeps aH bC;have b7:∀k,k<w.heap.size+2→u8.heap[k]?=wA.heap[k]?:=fun k hk=>(aH.block k (by have:=bR.size;omega)).trans (b6 k hk)
     have bu:u8.heap[gO]?=some (.cells (madeCells #[.slice none 0 0] n) 74 (0,0)):=(aH.block _ (aI ar).1).trans ar;have aM:gO≠X:=by have:=(aI ar).1;omega
     have bq:u8.heap[gI]?=some (.cells (madeCells #[.slice none 0 0] n) 74 (0,0)):=(aH.block _ (aI ap).1).trans ap;have aL:gI≠X:=by have:=(aI ap).1;omega
     have lX:w.heap.size+2≤X:=by omega
     rw[hu8,hX];clear hu8 r;refine jg (i:=10) (o:=⟨none,.store 63 (.tmp 3) (.tmp 14),0,"l11_live.go:58",#[⟨9,.data⟩,⟨8,.data⟩,⟨0,.phase⟩,⟨1,.phase⟩,⟨2,.phase⟩,⟨3,.phase⟩,⟨4,.phase⟩,⟨5,.phase⟩,⟨6,.phase⟩,⟨7,.phase⟩,⟨8,.phase⟩,⟨9,.phase⟩],none⟩) rfl rfl (by kernel_rfl) (fun K9 r=>?_);have x0:u8.cell? (Z X 0)=some (.slice none 0 0):=(je ah 0).trans rfl;have x1:u8.cell? (Z X 1)=some (.slice none 0 0):=(je ah 1).trans rfl;have x2:∀i,u8.frozen? (Z X i)=false:=fun i=>by simp[World.frozen?,ah]
     refine Jc (u:=sq gI 0 n n) (v:=sq gO 0 n n) ah rfl rfl (by kernel_rfl) (by kernel_rfl) rfl rfl (r _ _ ⟨?_,?_⟩)
     ·exact(Jb (by omega)).trans bX
     ·refine wpAnyH_done (by kernel_rfl) ?_ _;exact⟨gI,gO,X,rfl,Jd bq bu ah ae.symm aL aM aP aQ lX cb b7⟩
    ·refine jC (v:=.pointer (some (Z u6.heap.size 0))) (w':=u6.alloc (.cells #[.slice none 0 0,.slice none 0 0] 63)) (by simp[execOp,go_sem]) (r _ _ ⟨Bel.keeps (Bel.alloc _ _) aY,?_⟩);try simp only[Act.put,sT,sZ,sS]
     obtain⟨u9,hu9⟩:∃U,u6.alloc (.cells #[.slice none 0 0,.slice none 0 0] 63)=U:=⟨_,rfl⟩;obtain⟨X,hX⟩:∃g,u6.heap.size=g:=⟨_,rfl⟩;have aW:Below u6.heap.size u6 u9:=by rw[←hu9];exact Bel.alloc _ _
     have bT:Below w.heap.size w u9:=Bel.after bd aW;have cF:u9.heap.size=X+1:=by rw[←hu9,←hX];simp
     have aO:u9.heap[X]?=some (.cells #[.slice none 0 0,.slice none 0 0] 63 (0,0)):=by rw[←hu9,←hX];exact World.alloc_heap_new u6 _
     have bD:=Bel.keeps aW aY;have b8:∀k,k<w.heap.size+2→u9.heap[k]?=wA.heap[k]?:=fun k hk=>(aW.block k (by have:=bd.size;omega)).trans (bL k hk)
     have au:u9.heap[gO]?=some (.cells (madeCells #[.slice none 0 0] n) 74 (0,0)):=(aW.block _ (aI H).1).trans H;have aM:gO≠X:=by have:=(aI H).1;omega
     have lX:w.heap.size+2≤X:=by omega
     rw[hu9,hX];clear hu9 r;refine jg (i:=3) (o:=⟨some 9,.makeSlice 61 (.tmp 8) (.tmp 8),61,"l11_live.go:58",#[⟨2,.data⟩,⟨2,.data⟩],none⟩) rfl rfl (by kernel_rfl) (fun K9 r=>?_);refine jC (v:=sq u9.heap.size 0 n n) (w':=u9.alloc (.cells (madeCells #[.slice none 0 0] n) 74)) (xy rfl rfl rfl (xC n hn u9)) (r _ _ ⟨Bel.keeps (Bel.alloc _ _) bD,?_⟩);try simp only[Act.put,sT,sZ,sS]
     obtain⟨aR,hu10⟩:∃U,u9.alloc (.cells (madeCells #[.slice none 0 0] n) 74)=U:=⟨_,rfl⟩;obtain⟨gI,hgI⟩:∃g,u9.heap.size=g:=⟨_,rfl⟩;have aa:Below u9.heap.size u9 aR:=by rw[←hu10];exact Bel.alloc _ _
     have bM:Below w.heap.size w aR:=Bel.after bT aa;have cl:aR.heap.size=gI+1:=by rw[←hu10,←hgI];simp
     have aZ:aR.heap[gI]?=some (.cells (madeCells #[.slice none 0 0] n) 74 (0,0)):=by rw[←hu10,←hgI];exact World.alloc_heap_new u9 _
     have bw:=Bel.keeps aa bD;have bG:∀k,k<w.heap.size+2→aR.heap[k]?=wA.heap[k]?:=fun k hk=>(aa.block k (by have:=bT.size;omega)).trans (b8 k hk)
     have a6:aR.heap[gO]?=some (.cells (madeCells #[.slice none 0 0] n) 74 (0,0)):=(aa.block _ (aI au).1).trans au;have ae:gO≠gI:=by have:=(aI au).1;omega
     have I:aR.heap[X]?=some (.cells #[.slice none 0 0,.slice none 0 0] 63 (0,0)):=(aa.block _ (aI aO).1).trans aO;have aJ:X≠gI:=by have:=(aI aO).1;omega
     have aP:w.heap.size+2≤gI:=by omega
     rw[hu10,hgI];clear hu10 r;refine tkA 8 ⟨some 14,.build 63 #[(0,.tmp 9),(1,.tmp 13)],63,"l11_live.go:58",#[⟨3,.data⟩,⟨7,.data⟩],none⟩ ?_ (fun w h=>?_) ?_;rotate_left
     ·(try dsimp only at h);go_simp;(try with_reducible rfl)
     try simp only[Act.put,sT,sZ,sS]
     refine jg (i:=10) (o:=⟨none,.store 63 (.tmp 3) (.tmp 14),0,"l11_live.go:58",#[⟨9,.data⟩,⟨8,.data⟩,⟨0,.phase⟩,⟨1,.phase⟩,⟨2,.phase⟩,⟨3,.phase⟩,⟨4,.phase⟩,⟨5,.phase⟩,⟨6,.phase⟩,⟨7,.phase⟩,⟨8,.phase⟩,⟨9,.phase⟩],none⟩) rfl rfl (by kernel_rfl) (fun K9 r=>?_);have x0:aR.cell? (Z X 0)=some (.slice none 0 0):=(je I 0).trans rfl;have x1:aR.cell? (Z X 1)=some (.slice none 0 0):=(je I 1).trans rfl;have x2:∀i,aR.frozen? (Z X i)=false:=fun i=>by simp[World.frozen?,I]
     refine Jc (u:=sq gI 0 n n) (v:=sq gO 0 n n) I rfl rfl (by kernel_rfl) (by kernel_rfl) rfl rfl (r _ _ ⟨?_,?_⟩)
     ·exact(Jb (by omega)).trans bw
     ·refine wpAnyH_done (by kernel_rfl) ?_ _;exact⟨gI,gO,X,rfl,Jd aZ a6 I ae.symm aJ.symm aM aP aQ lX bM bG⟩
   ·refine jC (v:=.pointer (some (Z wd.heap.size 0))) (w':=wd.alloc (.cells #[.slice none 0 0,.slice none 0 0] 63)) (by simp[execOp,go_sem]) (r _ _ ⟨Bel.keeps (Bel.alloc _ _) aj,?_⟩);try simp only[Act.put,sT,sZ,sS]
    obtain⟨M,hu11⟩:∃U,wd.alloc (.cells #[.slice none 0 0,.slice none 0 0] 63)=U:=⟨_,rfl⟩;obtain⟨X,hX⟩:∃g,wd.heap.size=g:=⟨_,rfl⟩;have aE:Below wd.heap.size wd M:=by rw[←hu11];exact Bel.alloc _ _
    have aD:Below w.heap.size w M:=Bel.after aw aE;have cm:M.heap.size=X+1:=by rw[←hu11,←hX];simp
    have B:M.heap[X]?=some (.cells #[.slice none 0 0,.slice none 0 0] 63 (0,0)):=by rw[←hu11,←hX];exact World.alloc_heap_new wd _
    have aA:=Bel.keeps aE aj;have bj:∀k,k<w.heap.size+2→M.heap[k]?=wA.heap[k]?:=fun k hk=>(aE.block k (by have:=aw.size;omega)).trans (a9 k hk)
    have lX:w.heap.size+2≤X:=by omega
    rw[hu11,hX];clear hu11 r;refine zu (i:=3) (i2:=7) (o:=⟨some 9,.makeSlice 61 (.tmp 8) (.tmp 8),61,"l11_live.go:58",#[⟨2,.data⟩,⟨2,.data⟩],none⟩) (o2:=⟨some 13,.makeSlice 61 (.tmp 12) (.tmp 12),61,"l11_live.go:58",#[⟨6,.data⟩,⟨6,.data⟩],none⟩) rfl rfl rfl rfl (by kernel_rfl) (fun K9 r=>?_) (fun K9 r=>?_)
    ·refine jC (v:=sq M.heap.size 0 n n) (w':=M.alloc (.cells (madeCells #[.slice none 0 0] n) 74)) (xy rfl rfl rfl (xC n hn M)) (r _ _ ⟨Bel.keeps (Bel.alloc _ _) aA,?_⟩);try simp only[Act.put,sT,sZ,sS]
     obtain⟨aB,hu12⟩:∃U,M.alloc (.cells (madeCells #[.slice none 0 0] n) 74)=U:=⟨_,rfl⟩;obtain⟨gI,hgI⟩:∃g,M.heap.size=g:=⟨_,rfl⟩;have ay:Below M.heap.size M aB:=by rw[←hu12];exact Bel.alloc _ _
     have bk:Below w.heap.size w aB:=Bel.after aD ay;have cn:aB.heap.size=gI+1:=by rw[←hu12,←hgI];simp
     have O:aB.heap[gI]?=some (.cells (madeCells #[.slice none 0 0] n) 74 (0,0)):=by rw[←hu12,←hgI];exact World.alloc_heap_new M _
     have bg:=Bel.keeps ay aA;have bH:∀k,k<w.heap.size+2→aB.heap[k]?=wA.heap[k]?:=fun k hk=>(ay.block k (by have:=aD.size;omega)).trans (bj k hk)
     have ak:aB.heap[X]?=some (.cells #[.slice none 0 0,.slice none 0 0] 63 (0,0)):=(ay.block _ (aI B).1).trans B;have aJ:X≠gI:=by have:=(aI B).1;omega
     have aP:w.heap.size+2≤gI:=by omega
     rw[hu12,hgI];clear hu12 r;refine jg (i:=7) (o:=⟨some 13,.makeSlice 61 (.tmp 12) (.tmp 12),61,"l11_live.go:58",#[⟨6,.data⟩,⟨6,.data⟩],none⟩) rfl rfl (by kernel_rfl) (fun K9 r=>?_);refine jC (v:=sq aB.heap.size 0 n n) (w':=aB.alloc (.cells (madeCells #[.slice none 0 0] n) 74)) (xy rfl rfl rfl (xC n hn aB)) (r _ _ ⟨Bel.keeps (Bel.alloc _ _) bg,?_⟩);try simp only[Act.put,sT,sZ,sS]
     obtain⟨aS,hu13⟩:∃U,aB.alloc (.cells (madeCells #[.slice none 0 0] n) 74)=U:=⟨_,rfl⟩;obtain⟨gO,hgO⟩:∃g,aB.heap.size=g:=⟨_,rfl⟩;have ab:Below aB.heap.size aB aS:=by rw[←hu13];exact Bel.alloc _ _
     have bN:Below w.heap.size w aS:=Bel.after bk ab;have co:aS.heap.size=gO+1:=by rw[←hu13,←hgO];simp
     have a7:aS.heap[gO]?=some (.cells (madeCells #[.slice none 0 0] n) 74 (0,0)):=by rw[←hu13,←hgO];exact World.alloc_heap_new aB _
     have bx:=Bel.keeps ab bg;have bI:∀k,k<w.heap.size+2→aS.heap[k]?=wA.heap[k]?:=fun k hk=>(ab.block k (by have:=bk.size;omega)).trans (bH k hk)
     have J:aS.heap[X]?=some (.cells #[.slice none 0 0,.slice none 0 0] 63 (0,0)):=(ab.block _ (aI ak).1).trans ak;have aK:X≠gO:=by have:=(aI ak).1;omega
     have a4:aS.heap[gI]?=some (.cells (madeCells #[.slice none 0 0] n) 74 (0,0)):=(ab.block _ (aI O).1).trans O;have ad:gI≠gO:=by have:=(aI O).1;omega
     have aQ:w.heap.size+2≤gO:=by omega
     rw[hu13,hgO];clear hu13 r;refine tkA 8 ⟨some 14,.build 63 #[(0,.tmp 9),(1,.tmp 13)],63,"l11_live.go:58",#[⟨3,.data⟩,⟨7,.data⟩],none⟩ ?_ (fun w h=>?_) ?_;rotate_left
     ·(try dsimp only at h);go_simp;(try with_reducible rfl)
     try simp only[Act.put,sT,sZ,sS]
     refine jg (i:=10) (o:=⟨none,.store 63 (.tmp 3) (.tmp 14),0,"l11_live.go:58",#[⟨9,.data⟩,⟨8,.data⟩,⟨0,.phase⟩,⟨1,.phase⟩,⟨2,.phase⟩,⟨3,.phase⟩,⟨4,.phase⟩,⟨5,.phase⟩,⟨6,.phase⟩,⟨7,.phase⟩,⟨8,.phase⟩,⟨9,.phase⟩],none⟩) rfl rfl (by kernel_rfl) (fun K9 r=>?_);have x0:aS.cell? (Z X 0)=some (.slice none 0 0):=(je J 0).trans rfl;have x1:aS.cell? (Z X 1)=some (.slice none 0 0):=(je J 1).trans rfl;have x2:∀i,aS.frozen? (Z X i)=false:=fun i=>by simp[World.frozen?,J]
     refine Jc (u:=sq gI 0 n n) (v:=sq gO 0 n n) J rfl rfl (by kernel_rfl) (by kernel_rfl) rfl rfl (r _ _ ⟨?_,?_⟩)
     ·exact(Jb (by omega)).trans bx
     ·refine wpAnyH_done (by kernel_rfl) ?_ _;exact⟨gI,gO,X,rfl,Jd a4 a7 J ad aJ.symm aK.symm aP aQ lX bN bI⟩
    ·refine jC (v:=sq M.heap.size 0 n n) (w':=M.alloc (.cells (madeCells #[.slice none 0 0] n) 74)) (xy rfl rfl rfl (xC n hn M)) (r _ _ ⟨Bel.keeps (Bel.alloc _ _) aA,?_⟩);try simp only[Act.put,sT,sZ,sS]
     obtain⟨aC,hu14⟩:∃U,M.alloc (.cells (madeCells #[.slice none 0 0] n) 74)=U:=⟨_,rfl⟩;obtain⟨gO,hgO⟩:∃g,M.heap.size=g:=⟨_,rfl⟩;have az:Below M.heap.size M aC:=by rw[←hu14];exact Bel.alloc _ _
     have bl:Below w.heap.size w aC:=Bel.after aD az;have cp:aC.heap.size=gO+1:=by rw[←hu14,←hgO];simp
     have V:aC.heap[gO]?=some (.cells (madeCells #[.slice none 0 0] n) 74 (0,0)):=by rw[←hu14,←hgO];exact World.alloc_heap_new M _
     have bh:=Bel.keeps az aA;have bJ:∀k,k<w.heap.size+2→aC.heap[k]?=wA.heap[k]?:=fun k hk=>(az.block k (by have:=aD.size;omega)).trans (bj k hk)
     have am:aC.heap[X]?=some (.cells #[.slice none 0 0,.slice none 0 0] 63 (0,0)):=(az.block _ (aI B).1).trans B;have aK:X≠gO:=by have:=(aI B).1;omega
     have aQ:w.heap.size+2≤gO:=by omega
     rw[hu14,hgO];clear hu14 r;refine jg (i:=3) (o:=⟨some 9,.makeSlice 61 (.tmp 8) (.tmp 8),61,"l11_live.go:58",#[⟨2,.data⟩,⟨2,.data⟩],none⟩) rfl rfl (by kernel_rfl) (fun K9 r=>?_);refine jC (v:=sq aC.heap.size 0 n n) (w':=aC.alloc (.cells (madeCells #[.slice none 0 0] n) 74)) (xy rfl rfl rfl (xC n hn aC)) (r _ _ ⟨Bel.keeps (Bel.alloc _ _) bh,?_⟩);try simp only[Act.put,sT,sZ,sS]
     obtain⟨ai,hu15⟩:∃U,aC.alloc (.cells (madeCells #[.slice none 0 0] n) 74)=U:=⟨_,rfl⟩;obtain⟨gI,hgI⟩:∃g,aC.heap.size=g:=⟨_,rfl⟩;have ac:Below aC.heap.size aC ai:=by rw[←hu15];exact Bel.alloc _ _
     have bO:Below w.heap.size w ai:=Bel.after bl ac;have cq:ai.heap.size=gI+1:=by rw[←hu15,←hgI];simp
     have a5:ai.heap[gI]?=some (.cells (madeCells #[.slice none 0 0] n) 74 (0,0)):=by rw[←hu15,←hgI];exact World.alloc_heap_new aC _
     have bz:=Bel.keeps ac bh;have bK:∀k,k<w.heap.size+2→ai.heap[k]?=wA.heap[k]?:=fun k hk=>(ac.block k (by have:=bl.size;omega)).trans (bJ k hk)
     have K:ai.heap[X]?=some (.cells #[.slice none 0 0,.slice none 0 0] 63 (0,0)):=(ac.block _ (aI am).1).trans am;have aJ:X≠gI:=by have:=(aI am).1;omega
     have a8:ai.heap[gO]?=some (.cells (madeCells #[.slice none 0 0] n) 74 (0,0)):=(ac.block _ (aI V).1).trans V;have ae:gO≠gI:=by have:=(aI V).1;omega
     have aP:w.heap.size+2≤gI:=by omega
     rw[hu15,hgI];clear hu15 r;refine tkA 8 ⟨some 14,.build 63 #[(0,.tmp 9),(1,.tmp 13)],63,"l11_live.go:58",#[⟨3,.data⟩,⟨7,.data⟩],none⟩ ?_ (fun w h=>?_) ?_;rotate_left
     ·(try dsimp only at h);go_simp;(try with_reducible rfl)
     try simp only[Act.put,sT,sZ,sS]
     refine jg (i:=10) (o:=⟨none,.store 63 (.tmp 3) (.tmp 14),0,"l11_live.go:58",#[⟨9,.data⟩,⟨8,.data⟩,⟨0,.phase⟩,⟨1,.phase⟩,⟨2,.phase⟩,⟨3,.phase⟩,⟨4,.phase⟩,⟨5,.phase⟩,⟨6,.phase⟩,⟨7,.phase⟩,⟨8,.phase⟩,⟨9,.phase⟩],none⟩) rfl rfl (by kernel_rfl) (fun K9 r=>?_);have x0:ai.cell? (Z X 0)=some (.slice none 0 0):=(je K 0).trans rfl;have x1:ai.cell? (Z X 1)=some (.slice none 0 0):=(je K 1).trans rfl;have x2:∀i,ai.frozen? (Z X i)=false:=fun i=>by simp[World.frozen?,K]
     refine Jc (u:=sq gI 0 n n) (v:=sq gO 0 n n) K rfl rfl (by kernel_rfl) (by kernel_rfl) rfl rfl (r _ _ ⟨?_,?_⟩)
     ·exact(Jb (by omega)).trans bz
     ·refine wpAnyH_done (by kernel_rfl) ?_ _;exact⟨gI,gO,X,rfl,Jd a5 a8 K ae.symm aJ.symm aK.symm aP aQ lX bO bK⟩
end Go.Proofs.YtkbhbekfniadhaaGreat
