/- The program's needs begin: two rows of empty sets, and the box that names them, in whatever order they are laid. -/
import Derived.Test.YtkbhbekfniadhaaGreatTkK
import Derived.Test.YtkbhbekfniadhaaGreatTk0
import Derived.Test.YtkbhbekfniadhaaGreatKLG
import Derived.Test.YtkbhbekfniadhaaGreatKTo
import Derived.Test.YtkbhbekfniadhaaGreatKLNd
import Derived.Deep.MidRow
set_option maxRecDepth 100000
set_option maxHeartbeats 8000000
namespace Go.Proofs.YtkbhbekfniadhaaGreat
open Go.ChangeShapes Go.WideShapes Go.ChangeAt Go.RowKit Go.Shelf
set_option linter.unusedVariables false
theorem xC (n:Nat)(hn:n≤1048576)(w:World) :
  (Instr.makeSlice 61 (vi (n:Int)) (vi (n:Int))).run Tryz.prog w=.ok (.slice (some (Z w.heap.size 0)) n n) (w.alloc (.cells (madeCells #[.slice none 0 0] n) 74)):=by
 have h:=aeB (z:=.agg #[.slice none 0 0]) (size:=1) (bytes:=24) Tryz.underlying61 (by kernel_rfl) n (by omega) (by omega) w;rw[Nat.mul_one] at h;exact h
theorem madeL (n i:Nat):(madeCells #[.slice none 0 0] n).getD i Qw=Qw:=by
 have:madeCells #[Value.slice none 0 0] n=(List.replicate n (Value.slice none 0 0)).toArray:=by
  apply Array.toList_inj.1
  rw[toList_madeCells_one]
 rw[this];by_cases h:i<n <;> simp[Array.getD,h,Qw]
theorem abn (n:Nat):(madeCells #[.slice none 0 0] n).size=n:=by
 rw[←Array.length_toList,toList_madeCells_one];simp
theorem ownNil (w:World)(lo:Nat):ja w lo Qw []:=⟨rfl,.inl ⟨rfl,rfl⟩⟩
def afJ (w:World)(X:Nat)(a b:Value):World:=(w.setCell (Z X 0) a).setCell (Z X 1) b
theorem aeZ {w:World}{X:Nat}{t:TypeId}(h:w.heap[X]?=some (.cells #[.slice none 0 0,.slice none 0 0] t (0,0)))(a b:Value):(afJ w X a b).heap[X]?=some (.cells #[a,b] t (0,0)):=by
 simp[afJ,World.setCell,Array.getElem?_modify,h]
theorem xd {w:World}{X k:Nat}(h:k≠X)(a b:Value):(afJ w X a b).heap[k]?=w.heap[k]? :=
 (Below.heap_setCell _ _ _ k (by intro e;exact h e)).trans (Below.heap_setCell _ _ _ k (by intro e;exact h e))
theorem ac9 (w:World)(X:Nat)(a b:Value):(afJ w X a b).heap.size=w.heap.size:=by
 simp[afJ,World.setCell]
theorem Jb {w:World}{X g o:Nat}{a b:Value}(h:g≠X):(afJ w X a b).cell? (Z g o)=w.cell? (Z g o):=World.cell?_of_block (xd h a b)
section
variable {P:Program} {Q:Exit→Act→World→Prop} {o:Oper} {a:Act} {w:World} {K:Act→World→Prop}
theorem Jc {X:Nat}{p x:Operand}{u v:Value}(h:w.heap[X]?=some (.cells #[.slice none 0 0,.slice none 0 0] 63 (0,0)))(ho:o.op=.store 63 p x)(hd:o.dst=none)(hp:a.eval p=.pointer (some (Z X 0)))(hx:a.eval x=.agg #[u,v])(hu:u.oneCell'=true)(hv:v.oneCell'=true)(hk:K a (afJ w X u v)):o.wp Tryz.prog a w K Q:=by
 have ht:w.there X 0 (#[u,v]:Array Value).size:=fun j hj=>by
  have hj2:j<2:=hj;refine⟨?_,by simp[World.frozen?,h]⟩
  match j,hj2 with
  | 0,_=>simp[World.cell?,h]
  | 1,_=>simp[World.cell?,h]
 refine wp_store_mid 63 p x ho X 0 #[u,v] hp hx ht (by kernel_rfl) (by simp[hu,hv]) ?_;rw[hd];exact hk
end
def aho (w wA:World)(gI gO X n:Nat)(w':World):Prop :=
 jA w' w.heap.size gI gO n (madeCells #[.slice none 0 0] n) (madeCells #[.slice none 0 0] n) (fun _=>[]) (fun _=>[])∧w'.heap[X]?=some (.cells #[.slice (some (Z gI 0)) n n,.slice (some (Z gO 0)) n n] 63 (0,0))∧w.heap.size+2≤X∧gI≠X∧gO≠X∧w.heap.size+2≤gI∧w.heap.size+2≤gO∧Below w.heap.size w w'∧(∀k,k<w.heap.size+2→w'.heap[k]?=wA.heap[k]?)
theorem Jd {w wA u:World}{gI gO X n:Nat}(hI:u.heap[gI]?=some (.cells (madeCells #[.slice none 0 0] n) 74 (0,0)))(hO:u.heap[gO]?=some (.cells (madeCells #[.slice none 0 0] n) 74 (0,0)))(hX:u.heap[X]?=some (.cells #[.slice none 0 0,.slice none 0 0] 63 (0,0)))
  (h1:gI≠gO) (h2:gI≠X) (h3:gO≠X) (lI:w.heap.size+2≤gI) (lO:w.heap.size+2≤gO) (lX:w.heap.size+2≤X) (hb:Below w.heap.size w u) (hf:∀k,k<w.heap.size+2→u.heap[k]?=wA.heap[k]?):aho w wA gI gO X n (afJ u X (.slice (some (Z gI 0)) n n) (.slice (some (Z gO 0)) n n)):=by
 refine⟨⟨(xd h2 _ _).trans hI,(xd h3 _ _).trans hO,abn n,abn n,by omega,by omega,h1,fun i _=>?_,fun i _=>?_,fun k k' i i' _ _ _ b hb=>?_⟩,aeZ hX _ _,lX,h2,h3,lI,lO,⟨hb.os,hb.tape,hb.output,by rw[ac9];exact hb.size,fun k hk=>(xd (by omega) _ _).trans (hb.block k hk)⟩,fun k hk=>(xd (by omega) _ _).trans (hf k hk)⟩
 ·rw[madeL];exact ownNil _ _
 ·rw[madeL];exact ownNil _ _
 ·exfalso;unfold hdr at hb;split at hb <;> (rw[madeL] at hb;simp[Qw,Value.ownBlock] at hb)
structure afK (F:FnD)(w w':World)(n gI gO X:Nat)(ba:Option Addr)(bcap:Nat)(vals:Int)(ins outs:Nat→List Int):Prop where
 needs:∃us vs,jA w' w.heap.size gI gO n us vs ins outs
 ok:ad1 F ins
 out:∀b,Asc (outs b)∧JZ (outs b)∧∀v∈outs b,v∈yT F ins b
 bel:Below w.heap.size w w'
 box:w'.heap[X]?=some (.cells #[.slice (some (Z gI 0)) n n,.slice (some (Z gO 0)) n n] 63 (0,0))
 fbox:w'.heap[w.heap.size]?=some (.cells #[.slice ba n bcap,vi vals] 26 (0,0))
 res:w'.heap[w.heap.size+1]?=some (.cells #[.slice none 0 0,.slice none 0 0] 63 (0,0))
 far:gI≠X∧gO≠X∧w.heap.size+2≤gI∧w.heap.size+2≤gO∧w.heap.size+2≤X
theorem out_new {F:FnD}{ins outs:Nat→List Int}{b:Nat}(h:∀v∈outs b,v∈yT F ins b):qT (outs b ++ yO ins (succsN F b))=yT F ins b:=by
 unfold yT at h ⊢;refine XR (yF _) (yF _) (fun v=>?_);rw[qM,qM];constructor
 ·rintro⟨h1,h2⟩;rcases List.mem_append.1 h1 with h1 | h1
  ·exact(qM _ v).1 (h v h1)
  ·exact⟨h1,h2⟩
 ·rintro⟨h1,h2⟩;exact⟨List.mem_append.2 (.inr h1),h2⟩
theorem afK.step {F:FnD}{w u u':World}{n gI gO X:Nat}{ba:Option Addr}{bcap:Nat}{vals:Int}{ins outs:Nat→List Int}(h:afK F w u n gI gO X ba bcap vals ins outs){b:Nat}{us' vs':Array Value}(hN:jA u' w.heap.size gI gO n us' vs' (xT ins b (inF F ins b)) (xT outs b (yT F ins b)))(hb:Below w.heap.size u u')
  (hk:∀(k:Nat) (c:Array Value) (t:TypeId) (z:Nat × Nat),u.heap[k]?=some (.cells c t z)→t≠3→k≠gI→k≠gO→u'.heap[k]?=some (.cells c t z)):afK F w u' n gI gO X ba bcap vals (xT ins b (inF F ins b)) (xT outs b (yT F ins b)):=by
 obtain⟨f1,f2,f3,f4,f5⟩:=h.far;have hsub:∀i,∀v∈ins i,v∈xT ins b (inF F ins b) i:=fun i v hv=>by
  unfold xT;split
  ·rename_i e;subst e;exact h.ok.grow i v hv
  ·exact hv
 refine⟨⟨us',vs',hN⟩,h.ok.step b,fun i=>?_,h.bel.trans hb,hk X _ _ _ h.box (by decide) f1.symm f2.symm,hk _ _ _ _ h.fbox (by decide) (by omega) (by omega),hk _ _ _ _ h.res (by decide) (by omega) (by omega),h.far⟩;unfold xT;split
 ·rename_i e
  subst e;exact⟨yF _,Qp _,ZM F hsub i⟩
 ·exact⟨(h.out i).1,(h.out i).2.1,fun v hv=>ZM F hsub i v ((h.out i).2.2 v hv)⟩
def afL (w:World)(F:FnD)(n:Nat)(e:Ending)(w':World):Prop :=
 ∃gI gO us vs,e=.returned (.agg #[.slice (some (Z gI 0)) n n,.slice (some (Z gO 0)) n n])∧jA w' w.heap.size gI gO n us vs (qz F) (yT F (qz F))∧Below w.heap.size w w'
theorem ZQ (v:Value)(F:FnD)(w:World)(hF:kJ w v F)(n:Nat)(hn0:F.blocks.length=n)(hn1:1≤n)(hn2:n≤16)(hT:∀(j:Nat) x,F.blocks[j]?=some x→Qq x)(hsu:∀(j:Nat),∀s∈succsN F j,0≤s∧s<n) :
  Calls Tryz.prog 39 #[v] w fun e w'=>afL w F n e w':=by
 have HF:Hid (kJ w v F):=hF;have HN:Hid (F.blocks.length=n):=hn0;obtain⟨vals,HV⟩:∃x,Hid (F.values=x):=⟨_,rfl⟩;obtain⟨ba,bcap,rfl⟩:=hF.out HN.out HV.out;have HT:Hid (∀(j:Nat) x,F.blocks[j]?=some x→Qq x):=hT;have HSU:Hid (∀(j:Nat),∀s∈succsN F j,0≤s∧s<n):=hsu;have hn:n≤1048576:=by omega
 obtain⟨wA,hwA⟩:∃wA,(w.alloc (.cells #[.slice ba n bcap,vi vals] 26)).alloc (.cells #[.slice none 0 0,.slice none 0 0] 63)=wA:=⟨_,rfl⟩;have zA:Below w.heap.size w wA:=by rw[←hwA];repeat (first | exact Below.refl _ _ | apply Below.drew | refine Below.alloc ?_ (by simp <;> omega) _ | refine Below.setCell ?_ (by simp <;> omega) _)
 have sA:wA.heap.size=w.heap.size+2:=by rw[←hwA];simp
 have fA:wA.heap[w.heap.size]?=some (.cells #[.slice ba n bcap,vi vals] 26 (0,0)):=by rw[←hwA,Below.heap_alloc _ _ _ (by simp)];exact World.alloc_heap_new w _
 have rA:wA.heap[w.heap.size+1]?=some (.cells #[.slice none 0 0,.slice none 0 0] 63 (0,0)):=by
  rw[←hwA];have:=World.alloc_heap_new (w.alloc (.cells #[.slice ba n bcap,vi vals] 26)) (.cells #[.slice none 0 0,.slice none 0 0] 63)
  rwa [World.size_alloc] at this
 have FA:Hid (wA.heap[w.heap.size]?=some (.cells #[.slice ba n bcap,vi vals] 26 (0,0))):=fA;have RA:Hid (wA.heap[w.heap.size+1]?=some (.cells #[.slice none 0 0,.slice none 0 0] 63 (0,0))):=rA;have cA:wA.cell? (Z w.heap.size 0)=some (.slice ba n bcap):=(je fA 0).trans rfl;clear hF hn0 hT hsu fA rA;go_enter Tryz.func39,Tryz.ntmps39
 go_wp2_with fail
 try rw[hwA]
 clear hwA;refine ac8 (r0 := ?r0) (r1 := ?r1) (fun m a w'=>∃(gI gO X:Nat) (ins outs:Nat→List Int) (u4 u5 u15 u16 u17 u18 u19 u20 u21 u22 u23 u24 u25 u26 u27:Value),a = { tmps := #[.agg #[.slice ba n bcap,vi vals],.pointer (some (Z w.heap.size 0)),.pointer (some (Z (w.heap.size+1) 0)),.pointer (some (Z X 0)),u4,u5,.pointer (some (Z w.heap.size 0)),.slice ba n bcap,vi n,.slice (some (Z gI 0)) n n,.pointer (some (Z w.heap.size 0)),.slice ba n bcap,vi n,.slice (some (Z gO 0)) n n,.agg #[.slice (some (Z gI 0)) n n,.slice (some (Z gO 0)) n n],u15,u16,u17,u18,u19,u20,u21,u22,u23,u24,u25,u26,u27],defers := [] }∧afK F w w' n gI gO X ba bcap vals ins outs∧m=JD n ins*17+n) (fun m a w'=>∃(gI gO X c:Nat) (g:Bool) (ins outs:Nat→List Int) (u15 u16 u17 u18 u19 u20 u21 u22 u23 u24 u25 u26 u27:Value),a = { tmps := #[.agg #[.slice ba n bcap,vi vals],.pointer (some (Z w.heap.size 0)),.pointer (some (Z (w.heap.size+1) 0)),.pointer (some (Z X 0)),vi ((c:Int)+1),.bool g,.pointer (some (Z w.heap.size 0)),.slice ba n bcap,vi n,.slice (some (Z gI 0)) n n,.pointer (some (Z w.heap.size 0)),.slice ba n bcap,vi n,.slice (some (Z gO 0)) n n,.agg #[.slice (some (Z gI 0)) n n,.slice (some (Z gO 0)) n n],u15,u16,u17,u18,u19,u20,u21,u22,u23,u24,u25,u26,u27],defers := [] }∧afK F w w' n gI gO X ba bcap vals ins outs∧c<n∧(g=false→∀i,c<i→i<n→inF F ins i=ins i∧outs i=yT F ins i)∧m=JD n ins*17+(if g then 17 else 0)+c) ?hf0 ?hf1 ?first ?pass0 ?pass1
 case hf0=>rfl
 case hf1=>rfl
 case pass1=>
  rintro m a u ⟨gI,gO,X,c,g,ins,outs,u15,u16,u17,u18,u19,u20,u21,u22,u23,u24,u25,u26,u27,rfl,hst,hc,hrd,rfl⟩;obtain⟨us,vs,hN⟩:=hst.needs;have hcl:c<F.blocks.length:=by rw[HN.out];exact hc
  obtain⟨x,HX⟩:∃x,Hid (F.blocks[c]?=some x):=⟨F.blocks[c],List.getElem?_eq_getElem hcl⟩;have hG:=afH w _ F HF.out n HN.out HT.out HSU.out gI gO us vs ins outs c hc u hst.bel hN (fun i=>⟨hst.ok.asc i,hst.ok.small i⟩) (fun i=>⟨(hst.out i).1,(hst.out i).2.1⟩) x HX.out;rw[out_new (hst.out c).2.2,←inF_at HX.out] at hG;have HST:Hid (afK F w u n gI gO X ba bcap vals ins outs):=hst;have HRD:Hid (g=false→∀i,c<i→i<n→inF F ins i=ins i∧outs i=yT F ins i):=hrd;obtain⟨bb,HBB⟩:∃z,Hid (decide ((ins c).length<(inF F ins c).length)=z):=⟨_,rfl⟩;have HG:Hid (Calls Tryz.prog 65 #[.agg #[.slice (some (Z gI 0)) n n,.slice (some (Z gO 0)) n n],.agg #[.slice ba n bcap,vi vals],vi c] u fun e w'=>ZN w u gI gO n c ins outs (yT F ins c) (inF F ins c) e w'):=hG;have q0:u.cell? (Z X 0)=some (.slice (some (Z gI 0)) n n):=(je hst.box 0).trans rfl;have q1:u.cell? (Z X 1)=some (.slice (some (Z gO 0)) n n):=(je hst.box 1).trans rfl;have f0:u.cell? (Z w.heap.size 0)=some (.slice ba n bcap):=(je hst.fbox 0).trans rfl;have f1:u.cell? (Z w.heap.size 1)=some (vi vals):=(je hst.fbox 1).trans rfl;obtain⟨hl1,hl2⟩:=hst.ok.longer c;have hl3:(inF F ins c).length≤80:=xB (Qa F ins c).1 (Qa F ins c).2;have hroom:=aeW (n:=n) (ins:=ins) hc (l:=inF F ins c) hl1 hl3;have HROOM:Hid (JD n (xT ins c (inF F ins c))+((inF F ins c).length-(ins c).length)=JD n ins):=hroom;have HL2:Hid ((inF F ins c).length≤(ins c).length→inF F ins c=ins c):=hl2;clear hst hrd hG hN hcl hl1 hl2 hl3 hroom;by_cases hc0:(0:Int)<(c:Int)
  ·have e1:(c:Int)=((c-1:Nat):Int)+1:=by omega
   have E1:Hid ((c:Int)=((c-1:Nat):Int)+1):=e1
   have HC0 : Hid (0 < c) := by have h9 : 0 < c := by omega
                                exact h9
   clear e1;cases bb
   all_goals (
    go_wp2_with (go_at_call 65;refine HG.out.mono ?_;rintro e u2 ⟨us2,vs2,rfl,hN2,hb2,hk2⟩;rw[HBB.out];have ST2:Hid (afK F w u2 n gI gO X ba bcap vals (xT ins c (inF F ins c)) (xT outs c (yT F ins c))):=HST.out.step hN2 hb2 hk2;clear hN2 hb2 hk2)
    go_step3)
   ·rw[E1.out];have hlen:=HBB.out;have hle:(inF F ins c).length≤(ins c).length:=by have h9:=of_decide_eq_false hlen;omega
    have heq:=HL2.out hle;have hst2:=ST2.out;rw[heq,Ko] at hst2;refine .inr ⟨rfl,_,?_,gI,gO,X,c-1,g,ins,xT outs c (yT F ins c),_,_,_,_,_,_,_,_,_,_,_,_,_,rfl,hst2,by omega,fun hg i h1 h2=>?_,rfl⟩
    ·have:=HC0.out;omega
    ·by_cases e:i=c
     ·subst e;exact⟨heq,Kn _ _ _⟩
     ·have h3:=HRD.out hg i (by omega) h2;exact⟨h3.1,(KG _ _ e).trans h3.2⟩
   ·rw[E1.out];have hlen:=of_decide_eq_true HBB.out;refine .inr ⟨rfl,_,?_,gI,gO,X,c-1,true,_,_,_,_,_,_,_,_,_,_,_,_,_,_,_,rfl,ST2.out,by omega,fun hg=>(by cases hg),rfl⟩;have:=HROOM.out;have:=HC0.out;cases g <;> simp <;> omega
  ·have hcz:c=0:=by omega
   have HCZ:Hid (c=0):=hcz;have hc1:¬(c:Int) > 0:=hc0;clear hcz;cases bb
   ·cases g
    ·go_wp2_with (go_at_call 65;refine HG.out.mono ?_;rintro e u2 ⟨us2,vs2,rfl,hN2,hb2,hk2⟩;rw[HBB.out];have ST2:Hid (afK F w u2 n gI gO X ba bcap vals (xT ins c (inF F ins c)) (xT outs c (yT F ins c))):=HST.out.step hN2 hb2 hk2;have k0:u2.cell? (Z X 0)=some (.slice (some (Z gI 0)) n n):=(je ST2.out.box 0).trans rfl;have k1:u2.cell? (Z X 1)=some (.slice (some (Z gO 0)) n n):=(je ST2.out.box 1).trans rfl;have k2:u2.cell? (Z (w.heap.size+1) 0)=some (.slice none 0 0):=(je ST2.out.res 0).trans rfl;have k3:u2.cell? (Z (w.heap.size+1) 1)=some (.slice none 0 0):=(je ST2.out.res 1).trans rfl;have k4:u2.frozen? (Z (w.heap.size+1) 0)=false:=(by simp[World.frozen?,ST2.out.res]);have k5:u2.frozen? (Z (w.heap.size+1) 1)=false:=(by simp[World.frozen?,ST2.out.res]);clear hN2 hb2 hk2)
     have hle:(inF F ins c).length≤(ins c).length:=by have h9:=of_decide_eq_false HBB.out;omega
     have heq:=HL2.out hle;have hst2:=ST2.out;rw[heq,Ko] at hst2;have hall:∀i,i<n→inF F ins i=ins i∧xT outs c (yT F ins c) i=yT F ins i:=fun i hi=>by
      by_cases e:i=c
      ·subst e;exact⟨heq,Kn _ _ _⟩
      ·have h3:=HRD.out (by simp) i (by have:=HCZ.out;omega) hi;exact⟨h3.1,(KG _ _ e).trans h3.2⟩
     have hlive:ins=qz F:=hst2.ok.eq (fun b hb=>(hall b (by rw[←HN.out];exact hb)).1);obtain⟨us3,vs3,hN3⟩:=hst2.needs;obtain⟨g1,g2,g3,g4,g5⟩:=hst2.far;have hr0:(afJ u2 (w.heap.size+1) (.slice (some (Z gI 0)) n n) (.slice (some (Z gO 0)) n n)).heap[w.heap.size+1]?=some (.cells #[.slice (some (Z gI 0)) n n,.slice (some (Z gO 0)) n n] 63 (0,0)):=aeZ hst2.res _ _;have hN4:jA (afJ u2 (w.heap.size+1) (.slice (some (Z gI 0)) n n) (.slice (some (Z gO 0)) n n)) w.heap.size gI gO n us3 vs3 (qz F) (yT F (qz F)):=by
      have h5:=hN3.same (w':=afJ u2 (w.heap.size+1) (.slice (some (Z gI 0)) n n) (.slice (some (Z gO 0)) n n)) (xd (by omega) _ _) (xd (by omega) _ _) (fun k i b hi hb=>xd (fun e=>Kj (hN3.row k hi) hst2.res (by decide) (by rw[←e];exact hb.symm)) _ _);rw[hlive] at h5 hall;exact⟨h5.boxI,h5.boxO,h5.sizeI,h5.sizeO,h5.lowI,h5.lowO,h5.ne,h5.rowI,fun i hi=>by have h6:=h5.rowO i hi;rw[(hall i hi).2] at h6;exact h6,h5.apart⟩
     have hbel:Below w.heap.size w (afJ u2 (w.heap.size+1) (.slice (some (Z gI 0)) n n) (.slice (some (Z gO 0)) n n)):=⟨hst2.bel.os,hst2.bel.tape,hst2.bel.output,by rw[ac9];exact hst2.bel.size,fun k hk=>(xd (by omega) _ _).trans (hst2.bel.block k hk)⟩;have rc0:=(je hr0 0).trans rfl;have rc1:=(je hr0 1).trans rfl;simp only[afJ] at rc0 rc1;simp only[exitJumps];refine bodyPost_ret (v:=.agg #[.slice (some (Z gI 0)) n n,.slice (some (Z gO 0)) n n]) (by simp[results,Tryz.results39,go_sem,rc0,rc1]) rfl ?_;exact⟨gI,gO,us3,vs3,rfl,hN4,hbel⟩
    ·go_wp2_with (go_at_call 65;refine HG.out.mono ?_;rintro e u2 ⟨us2,vs2,rfl,hN2,hb2,hk2⟩;rw[HBB.out];have ST2:Hid (afK F w u2 n gI gO X ba bcap vals (xT ins c (inF F ins c)) (xT outs c (yT F ins c))):=HST.out.step hN2 hb2 hk2;clear hN2 hb2 hk2)
     go_step3
     have hle:(inF F ins c).length≤(ins c).length:=by have h9:=of_decide_eq_false HBB.out;omega
     have heq:=HL2.out hle;have hst2:=ST2.out;rw[heq,Ko] at hst2;refine .inl ⟨rfl,_,?_,gI,gO,X,ins,xT outs c (yT F ins c),_,_,_,_,_,_,_,_,_,_,_,_,_,_,_,rfl,hst2,rfl⟩;simp;omega
   ·go_wp2_with (go_at_call 65;refine HG.out.mono ?_;rintro e u2 ⟨us2,vs2,rfl,hN2,hb2,hk2⟩;rw[HBB.out];have ST2:Hid (afK F w u2 n gI gO X ba bcap vals (xT ins c (inF F ins c)) (xT outs c (yT F ins c))):=HST.out.step hN2 hb2 hk2;clear hN2 hb2 hk2)
    go_step3
    have hlen:=of_decide_eq_true HBB.out;refine .inl ⟨rfl,_,?_,gI,gO,X,_,_,_,_,_,_,_,_,_,_,_,_,_,_,_,_,_,rfl,ST2.out,rfl⟩;have:=HROOM.out;cases g <;> simp <;> omega
 case pass0=>
  rintro hp1 m a u ⟨gI,gO,X,ins,outs,u4,u5,u15,u16,u17,u18,u19,u20,u21,u22,u23,u24,u25,u26,u27,rfl,hst,rfl⟩;have f0:u.cell? (Z w.heap.size 0)=some (.slice ba n bcap):=(je hst.fbox 0).trans rfl;have HST:Hid (afK F w u n gI gO X ba bcap vals ins outs):=hst
  have E1 : Hid ((n : Int) = ((n - 1 : Nat) : Int) + 1) := by have h9 : (n : Int) = ((n - 1 : Nat) : Int) + 1 := by omega
                                                              exact h9
  clear hst;go_wp2_with fail
  go_step3
  simp only[Exit.then]
  rename_i hK8
  refine hK8 _ _ ?_;refine Code.wp_mono (Qb (fun l a w h=>?_)) (hp1 (JD n ins*17+(n-1)) _ _ ?_)
  ·rcases h with ⟨h1,m',h2,h3⟩ | ⟨h1,m',h2,h3⟩
   ·exact .inl ⟨h1,m',by omega,h3⟩
   ·exact .inr ⟨h1,m',by omega,h3⟩
  ·rw[E1.out];exact⟨gI,gO,X,n-1,false,ins,outs,_,_,_,_,_,_,_,_,_,_,_,_,_,rfl,HST.out,by omega,fun _ i h1 h2=>absurd h2 (by omega),by simp⟩
 case first=>
  intro hp1;go_wp2_with fail
  refine Code.wp_mono (Q:=onlyNormal fun a' w'=>∃gI gO X,a' = { tmps := #[.agg #[.slice ba n bcap,vi vals],.pointer (some (Z w.heap.size 0)),.pointer (some (Z (w.heap.size+1) 0)),.pointer (some (Z X 0)),undef,undef,.pointer (some (Z w.heap.size 0)),.slice ba n bcap,vi n,.slice (some (Z gI 0)) n n,.pointer (some (Z w.heap.size 0)),.slice ba n bcap,vi n,.slice (some (Z gO 0)) n n,.agg #[.slice (some (Z gI 0)) n n,.slice (some (Z gO 0)) n n],undef,undef,undef,undef,undef,undef,undef,undef,undef,undef,undef,undef,undef],defers := [] }∧aho w wA gI gO X n w') ?after ?region
  case after=>
   rintro e a' u h;cases e with
   | normal=>
    obtain⟨gI,gO,X,rfl,hNd,hX,f5,f1,f2,f3,f4,hbl,hkp⟩:=h;have hst:afK F w u n gI gO X ba bcap vals (fun _=>[]) (fun _=>[]):=⟨⟨_,_,hNd⟩,abl F,fun b=>⟨adZ,fun x hx=>(by cases hx),fun v hv=>(by cases hv)⟩,hbl,hX,(hkp _ (by omega)).trans FA.out,(hkp _ (by omega)).trans RA.out,f1,f2,f3,f4,f5⟩;have f0:u.cell? (Z w.heap.size 0)=some (.slice ba n bcap):=(je hst.fbox 0).trans rfl;have HST:Hid (afK F w u n gI gO X ba bcap vals (fun _=>[]) (fun _=>[])):=hst
    have E1 : Hid ((n : Int) = ((n - 1 : Nat) : Int) + 1) := by have h9 : (n : Int) = ((n - 1 : Nat) : Int) + 1 := by omega
                                                                exact h9
    clear hst hNd hX hbl hkp;simp only[Exit.then]
    go_at_K
    go_wp2_with fail
    go_step3
    simp only[Exit.then]
    go_at_K
    go_wp2_with fail
    go_step3
    simp only[Exit.then]
    rename_i hK8
    refine hK8 _ _ ?_;refine Code.wp_mono (Qb (fun l a w h=>?_)) (hp1 (JD n (fun _=>[])*17+(n-1)) _ _ ?_)
    ·rcases h with ⟨h1,m',h2,h3⟩ | ⟨h1,m',h2,h3⟩
     ·exact .inl ⟨h1,m',h3⟩
     ·exact .inr ⟨h1,m',h3⟩
    ·rw[E1.out];exact⟨gI,gO,X,n-1,false,_,_,_,_,_,_,_,_,_,_,_,_,_,_,_,rfl,HST.out,by omega,fun _ i h1 h2=>absurd h2 (by omega),by simp⟩
   | _=>exact h.elim
  case region=>
   refine wp_region_held_drew (S:=fun w'=>w'.cell? (Z w.heap.size 0)=some (.slice ba n bcap)) (by kernel_rfl) cA (fun hHeld=>?_);refine tkA 0 ⟨some 6,.fieldAddr 26 (.tmp 1) 0,0,"l11_live.go:58",#[],none⟩ ?_ (fun w hSw=>?_) ?_;rotate_left
   ·(try dsimp only at hSw);go_simp;(try with_reducible rfl)
   try simp only[Act.put,sT,sZ,sS]
   refine tkA 1 ⟨some 7,.load 24 (.tmp 6),24,"l11_live.go:58",#[⟨0,.data⟩],none⟩ ?_ (fun w hSw=>?_) ?_;rotate_left
   ·(try dsimp only at hSw);go_simp;(try with_reducible rfl)
   try simp only[Act.put,sT,sZ,sS]
   refine tkA 2 ⟨some 8,.call ⟨.builtin .len,#[.tmp 7],#[24]⟩,3,"l11_live.go:58",#[⟨1,.data⟩],none⟩ ?_ (fun w hSw=>?_) ?_;rotate_left
   ·(try dsimp only at hSw);go_simp;(try with_reducible rfl)
   try simp only[Act.put,sT,sZ,sS]
   refine tkA 4 ⟨some 10,.fieldAddr 26 (.tmp 1) 0,0,"l11_live.go:58",#[],none⟩ ?_ (fun w hSw=>?_) ?_;rotate_left
   ·(try dsimp only at hSw);go_simp;(try with_reducible rfl)
   try simp only[Act.put,sT,sZ,sS]
   refine tkA 5 ⟨some 11,.load 24 (.tmp 10),24,"l11_live.go:58",#[⟨4,.data⟩],none⟩ ?_ (fun w hSw=>?_) ?_;rotate_left
   ·(try dsimp only at hSw);go_simp;(try with_reducible rfl)
   try simp only[Act.put,sT,sZ,sS]
   refine tkA 6 ⟨some 12,.call ⟨.builtin .len,#[.tmp 11],#[24]⟩,3,"l11_live.go:58",#[⟨5,.data⟩],none⟩ ?_ (fun w hSw=>?_) ?_;rotate_left
   ·(try dsimp only at hSw);go_simp;(try with_reducible rfl)
   try simp only[Act.put,sT,sZ,sS]
   have z_wd:Below w.heap.size w wA.drew:=zA.trans (Below.refl _ wA).drew;have s_wd:wA.drew.heap.size=w.heap.size+2:=sA;have c_wd:wA.drew.cell? (Z w.heap.size 0)=some (.slice ba n bcap):=cA;have w_wd:∀k,k<w.heap.size+2→wA.drew.heap[k]?=wA.heap[k]?:=fun _ _=>rfl
   clear hHeld;generalize wA.drew=wd at z_wd s_wd c_wd w_wd ⊢;refine abQ (i:=3) (i2:=7) (i3:=9) (o:=⟨some 9,.makeSlice 61 (.tmp 8) (.tmp 8),61,"l11_live.go:58",#[⟨2,.data⟩,⟨2,.data⟩],none⟩) (o2:=⟨some 13,.makeSlice 61 (.tmp 12) (.tmp 12),61,"l11_live.go:58",#[⟨6,.data⟩,⟨6,.data⟩],none⟩) (o3:=⟨some 3,.alloc 63,0,"l11_live.go:58",#[],none⟩) rfl rfl rfl rfl rfl rfl (by kernel_rfl) (fun K9 hK9=>?_) (fun K9 hK9=>?_) (fun K9 hK9=>?_)
   ·refine jC (v:=.slice (some (Z wd.heap.size 0)) n n) (w':=wd.alloc (.cells (madeCells #[.slice none 0 0] n) 74)) (xy rfl rfl rfl (xC n hn wd)) (hK9 _ _ ⟨Bel.keeps (Bel.alloc _ _) c_wd,?_⟩);try simp only[Act.put,sT,sZ,sS]
    obtain⟨u1,hu1⟩:∃U,wd.alloc (.cells (madeCells #[.slice none 0 0] n) 74)=U:=⟨_,rfl⟩;obtain⟨gI,hgI⟩:∃g,wd.heap.size=g:=⟨_,rfl⟩;have b_u1:Below wd.heap.size wd u1:=by rw[←hu1];exact Bel.alloc _ _
    have z_u1:Below w.heap.size w u1:=Bel.after z_wd b_u1;have s_u1:u1.heap.size=gI+1:=by rw[←hu1,←hgI];simp
    have fgI_u1:u1.heap[gI]?=some (.cells (madeCells #[.slice none 0 0] n) 74 (0,0)):=by rw[←hu1,←hgI];exact World.alloc_heap_new wd _
    have c_u1:=Bel.keeps b_u1 c_wd;have w_u1:∀k,k<w.heap.size+2→u1.heap[k]?=wA.heap[k]?:=fun k hk=>(b_u1.block k (by have:=z_wd.size;omega)).trans (w_wd k hk)
    have lgI:w.heap.size+2≤gI:=by omega
    rw[hu1,hgI];clear hu1 hK9;refine zu (i:=7) (i2:=9) (o:=⟨some 13,.makeSlice 61 (.tmp 12) (.tmp 12),61,"l11_live.go:58",#[⟨6,.data⟩,⟨6,.data⟩],none⟩) (o2:=⟨some 3,.alloc 63,0,"l11_live.go:58",#[],none⟩) rfl rfl rfl rfl (by kernel_rfl) (fun K9 hK9=>?_) (fun K9 hK9=>?_)
    ·refine jC (v:=.slice (some (Z u1.heap.size 0)) n n) (w':=u1.alloc (.cells (madeCells #[.slice none 0 0] n) 74)) (xy rfl rfl rfl (xC n hn u1)) (hK9 _ _ ⟨Bel.keeps (Bel.alloc _ _) c_u1,?_⟩);try simp only[Act.put,sT,sZ,sS]
     obtain⟨u2,hu2⟩:∃U,u1.alloc (.cells (madeCells #[.slice none 0 0] n) 74)=U:=⟨_,rfl⟩;obtain⟨gO,hgO⟩:∃g,u1.heap.size=g:=⟨_,rfl⟩;have b_u2:Below u1.heap.size u1 u2:=by rw[←hu2];exact Bel.alloc _ _
     have z_u2:Below w.heap.size w u2:=Bel.after z_u1 b_u2;have s_u2:u2.heap.size=gO+1:=by rw[←hu2,←hgO];simp
     have fgO_u2:u2.heap[gO]?=some (.cells (madeCells #[.slice none 0 0] n) 74 (0,0)):=by rw[←hu2,←hgO];exact World.alloc_heap_new u1 _
     have c_u2:=Bel.keeps b_u2 c_u1;have w_u2:∀k,k<w.heap.size+2→u2.heap[k]?=wA.heap[k]?:=fun k hk=>(b_u2.block k (by have:=z_u1.size;omega)).trans (w_u1 k hk)
     have fgI_u2:u2.heap[gI]?=some (.cells (madeCells #[.slice none 0 0] n) 74 (0,0)):=(b_u2.block _ (aI fgI_u1).1).trans fgI_u1;have dgIgO:gI≠gO:=by have:=(aI fgI_u1).1;omega
     have lgO:w.heap.size+2≤gO:=by omega
     rw[hu2,hgO];clear hu2 hK9;refine tkA 8 ⟨some 14,.build 63 #[(0,.tmp 9),(1,.tmp 13)],63,"l11_live.go:58",#[⟨3,.data⟩,⟨7,.data⟩],none⟩ ?_ (fun w hSw=>?_) ?_;rotate_left
     ·(try dsimp only at hSw);go_simp;(try with_reducible rfl)
     try simp only[Act.put,sT,sZ,sS]
     refine jg (i:=9) (o:=⟨some 3,.alloc 63,0,"l11_live.go:58",#[],none⟩) rfl rfl (by kernel_rfl) (fun K9 hK9=>?_);refine jC (v:=.pointer (some (Z u2.heap.size 0))) (w':=u2.alloc (.cells #[.slice none 0 0,.slice none 0 0] 63)) (by simp[execOp,go_sem]) (hK9 _ _ ⟨Bel.keeps (Bel.alloc _ _) c_u2,?_⟩);try simp only[Act.put,sT,sZ,sS]
     obtain⟨u3,hu3⟩:∃U,u2.alloc (.cells #[.slice none 0 0,.slice none 0 0] 63)=U:=⟨_,rfl⟩;obtain⟨X,hX⟩:∃g,u2.heap.size=g:=⟨_,rfl⟩;have b_u3:Below u2.heap.size u2 u3:=by rw[←hu3];exact Bel.alloc _ _
     have z_u3:Below w.heap.size w u3:=Bel.after z_u2 b_u3;have s_u3:u3.heap.size=X+1:=by rw[←hu3,←hX];simp
     have fX_u3:u3.heap[X]?=some (.cells #[.slice none 0 0,.slice none 0 0] 63 (0,0)):=by rw[←hu3,←hX];exact World.alloc_heap_new u2 _
     have c_u3:=Bel.keeps b_u3 c_u2;have w_u3:∀k,k<w.heap.size+2→u3.heap[k]?=wA.heap[k]?:=fun k hk=>(b_u3.block k (by have:=z_u2.size;omega)).trans (w_u2 k hk)
     have fgI_u3:u3.heap[gI]?=some (.cells (madeCells #[.slice none 0 0] n) 74 (0,0)):=(b_u3.block _ (aI fgI_u2).1).trans fgI_u2;have dgIX:gI≠X:=by have:=(aI fgI_u2).1;omega
     have fgO_u3:u3.heap[gO]?=some (.cells (madeCells #[.slice none 0 0] n) 74 (0,0)):=(b_u3.block _ (aI fgO_u2).1).trans fgO_u2;have dgOX:gO≠X:=by have:=(aI fgO_u2).1;omega
     have lX:w.heap.size+2≤X:=by omega
     rw[hu3,hX];clear hu3 hK9;refine jg (i:=10) (o:=⟨none,.store 63 (.tmp 3) (.tmp 14),0,"l11_live.go:58",#[⟨9,.data⟩,⟨8,.data⟩,⟨0,.phase⟩,⟨1,.phase⟩,⟨2,.phase⟩,⟨3,.phase⟩,⟨4,.phase⟩,⟨5,.phase⟩,⟨6,.phase⟩,⟨7,.phase⟩,⟨8,.phase⟩,⟨9,.phase⟩],none⟩) rfl rfl (by kernel_rfl) (fun K9 hK9=>?_);have x0:u3.cell? (Z X 0)=some (.slice none 0 0):=(je fX_u3 0).trans rfl;have x1:u3.cell? (Z X 1)=some (.slice none 0 0):=(je fX_u3 1).trans rfl;have x2:∀i,u3.frozen? (Z X i)=false:=fun i=>by simp[World.frozen?,fX_u3]
     refine Jc (u:=.slice (some (Z gI 0)) n n) (v:=.slice (some (Z gO 0)) n n) fX_u3 rfl rfl (by kernel_rfl) (by kernel_rfl) rfl rfl (hK9 _ _ ⟨?_,?_⟩)
     ·exact(Jb (by omega)).trans c_u3
     ·refine wpAnyH_done (by kernel_rfl) ?_ _;exact⟨gI,gO,X,rfl,Jd fgI_u3 fgO_u3 fX_u3 dgIgO dgIX dgOX lgI lgO lX z_u3 w_u3⟩
    ·refine jC (v:=.pointer (some (Z u1.heap.size 0))) (w':=u1.alloc (.cells #[.slice none 0 0,.slice none 0 0] 63)) (by simp[execOp,go_sem]) (hK9 _ _ ⟨Bel.keeps (Bel.alloc _ _) c_u1,?_⟩);try simp only[Act.put,sT,sZ,sS]
     obtain⟨u4,hu4⟩:∃U,u1.alloc (.cells #[.slice none 0 0,.slice none 0 0] 63)=U:=⟨_,rfl⟩;obtain⟨X,hX⟩:∃g,u1.heap.size=g:=⟨_,rfl⟩;have b_u4:Below u1.heap.size u1 u4:=by rw[←hu4];exact Bel.alloc _ _
     have z_u4:Below w.heap.size w u4:=Bel.after z_u1 b_u4;have s_u4:u4.heap.size=X+1:=by rw[←hu4,←hX];simp
     have fX_u4:u4.heap[X]?=some (.cells #[.slice none 0 0,.slice none 0 0] 63 (0,0)):=by rw[←hu4,←hX];exact World.alloc_heap_new u1 _
     have c_u4:=Bel.keeps b_u4 c_u1;have w_u4:∀k,k<w.heap.size+2→u4.heap[k]?=wA.heap[k]?:=fun k hk=>(b_u4.block k (by have:=z_u1.size;omega)).trans (w_u1 k hk)
     have fgI_u4:u4.heap[gI]?=some (.cells (madeCells #[.slice none 0 0] n) 74 (0,0)):=(b_u4.block _ (aI fgI_u1).1).trans fgI_u1;have dgIX:gI≠X:=by have:=(aI fgI_u1).1;omega
     have lX:w.heap.size+2≤X:=by omega
     rw[hu4,hX];clear hu4 hK9;refine jg (i:=7) (o:=⟨some 13,.makeSlice 61 (.tmp 12) (.tmp 12),61,"l11_live.go:58",#[⟨6,.data⟩,⟨6,.data⟩],none⟩) rfl rfl (by kernel_rfl) (fun K9 hK9=>?_);refine jC (v:=.slice (some (Z u4.heap.size 0)) n n) (w':=u4.alloc (.cells (madeCells #[.slice none 0 0] n) 74)) (xy rfl rfl rfl (xC n hn u4)) (hK9 _ _ ⟨Bel.keeps (Bel.alloc _ _) c_u4,?_⟩);try simp only[Act.put,sT,sZ,sS]
     obtain⟨u5,hu5⟩:∃U,u4.alloc (.cells (madeCells #[.slice none 0 0] n) 74)=U:=⟨_,rfl⟩;obtain⟨gO,hgO⟩:∃g,u4.heap.size=g:=⟨_,rfl⟩;have b_u5:Below u4.heap.size u4 u5:=by rw[←hu5];exact Bel.alloc _ _
     have z_u5:Below w.heap.size w u5:=Bel.after z_u4 b_u5;have s_u5:u5.heap.size=gO+1:=by rw[←hu5,←hgO];simp
     have fgO_u5:u5.heap[gO]?=some (.cells (madeCells #[.slice none 0 0] n) 74 (0,0)):=by rw[←hu5,←hgO];exact World.alloc_heap_new u4 _
     have c_u5:=Bel.keeps b_u5 c_u4;have w_u5:∀k,k<w.heap.size+2→u5.heap[k]?=wA.heap[k]?:=fun k hk=>(b_u5.block k (by have:=z_u4.size;omega)).trans (w_u4 k hk)
     have fgI_u5:u5.heap[gI]?=some (.cells (madeCells #[.slice none 0 0] n) 74 (0,0)):=(b_u5.block _ (aI fgI_u4).1).trans fgI_u4;have dgIgO:gI≠gO:=by have:=(aI fgI_u4).1;omega
     have fX_u5:u5.heap[X]?=some (.cells #[.slice none 0 0,.slice none 0 0] 63 (0,0)):=(b_u5.block _ (aI fX_u4).1).trans fX_u4;have dXgO:X≠gO:=by have:=(aI fX_u4).1;omega
     have lgO:w.heap.size+2≤gO:=by omega
     rw[hu5,hgO];clear hu5 hK9;refine tkA 8 ⟨some 14,.build 63 #[(0,.tmp 9),(1,.tmp 13)],63,"l11_live.go:58",#[⟨3,.data⟩,⟨7,.data⟩],none⟩ ?_ (fun w hSw=>?_) ?_;rotate_left
     ·(try dsimp only at hSw);go_simp;(try with_reducible rfl)
     try simp only[Act.put,sT,sZ,sS]
     refine jg (i:=10) (o:=⟨none,.store 63 (.tmp 3) (.tmp 14),0,"l11_live.go:58",#[⟨9,.data⟩,⟨8,.data⟩,⟨0,.phase⟩,⟨1,.phase⟩,⟨2,.phase⟩,⟨3,.phase⟩,⟨4,.phase⟩,⟨5,.phase⟩,⟨6,.phase⟩,⟨7,.phase⟩,⟨8,.phase⟩,⟨9,.phase⟩],none⟩) rfl rfl (by kernel_rfl) (fun K9 hK9=>?_);have x0:u5.cell? (Z X 0)=some (.slice none 0 0):=(je fX_u5 0).trans rfl;have x1:u5.cell? (Z X 1)=some (.slice none 0 0):=(je fX_u5 1).trans rfl;have x2:∀i,u5.frozen? (Z X i)=false:=fun i=>by simp[World.frozen?,fX_u5]
     refine Jc (u:=.slice (some (Z gI 0)) n n) (v:=.slice (some (Z gO 0)) n n) fX_u5 rfl rfl (by kernel_rfl) (by kernel_rfl) rfl rfl (hK9 _ _ ⟨?_,?_⟩)
     ·exact(Jb (by omega)).trans c_u5
     ·refine wpAnyH_done (by kernel_rfl) ?_ _;exact⟨gI,gO,X,rfl,Jd fgI_u5 fgO_u5 fX_u5 dgIgO dgIX dXgO.symm lgI lgO lX z_u5 w_u5⟩
   ·refine jC (v:=.slice (some (Z wd.heap.size 0)) n n) (w':=wd.alloc (.cells (madeCells #[.slice none 0 0] n) 74)) (xy rfl rfl rfl (xC n hn wd)) (hK9 _ _ ⟨Bel.keeps (Bel.alloc _ _) c_wd,?_⟩);try simp only[Act.put,sT,sZ,sS]
    obtain⟨u6,hu6⟩:∃U,wd.alloc (.cells (madeCells #[.slice none 0 0] n) 74)=U:=⟨_,rfl⟩;obtain⟨gO,hgO⟩:∃g,wd.heap.size=g:=⟨_,rfl⟩;have b_u6:Below wd.heap.size wd u6:=by rw[←hu6];exact Bel.alloc _ _
    have z_u6:Below w.heap.size w u6:=Bel.after z_wd b_u6;have s_u6:u6.heap.size=gO+1:=by rw[←hu6,←hgO];simp
    have fgO_u6:u6.heap[gO]?=some (.cells (madeCells #[.slice none 0 0] n) 74 (0,0)):=by rw[←hu6,←hgO];exact World.alloc_heap_new wd _
    have c_u6:=Bel.keeps b_u6 c_wd;have w_u6:∀k,k<w.heap.size+2→u6.heap[k]?=wA.heap[k]?:=fun k hk=>(b_u6.block k (by have:=z_wd.size;omega)).trans (w_wd k hk)
    have lgO:w.heap.size+2≤gO:=by omega
    rw[hu6,hgO];clear hu6 hK9;refine zu (i:=3) (i2:=9) (o:=⟨some 9,.makeSlice 61 (.tmp 8) (.tmp 8),61,"l11_live.go:58",#[⟨2,.data⟩,⟨2,.data⟩],none⟩) (o2:=⟨some 3,.alloc 63,0,"l11_live.go:58",#[],none⟩) rfl rfl rfl rfl (by kernel_rfl) (fun K9 hK9=>?_) (fun K9 hK9=>?_)
    ·refine jC (v:=.slice (some (Z u6.heap.size 0)) n n) (w':=u6.alloc (.cells (madeCells #[.slice none 0 0] n) 74)) (xy rfl rfl rfl (xC n hn u6)) (hK9 _ _ ⟨Bel.keeps (Bel.alloc _ _) c_u6,?_⟩);try simp only[Act.put,sT,sZ,sS]
     obtain⟨u7,hu7⟩:∃U,u6.alloc (.cells (madeCells #[.slice none 0 0] n) 74)=U:=⟨_,rfl⟩;obtain⟨gI,hgI⟩:∃g,u6.heap.size=g:=⟨_,rfl⟩;have b_u7:Below u6.heap.size u6 u7:=by rw[←hu7];exact Bel.alloc _ _
     have z_u7:Below w.heap.size w u7:=Bel.after z_u6 b_u7;have s_u7:u7.heap.size=gI+1:=by rw[←hu7,←hgI];simp
     have fgI_u7:u7.heap[gI]?=some (.cells (madeCells #[.slice none 0 0] n) 74 (0,0)):=by rw[←hu7,←hgI];exact World.alloc_heap_new u6 _
     have c_u7:=Bel.keeps b_u7 c_u6;have w_u7:∀k,k<w.heap.size+2→u7.heap[k]?=wA.heap[k]?:=fun k hk=>(b_u7.block k (by have:=z_u6.size;omega)).trans (w_u6 k hk)
     have fgO_u7:u7.heap[gO]?=some (.cells (madeCells #[.slice none 0 0] n) 74 (0,0)):=(b_u7.block _ (aI fgO_u6).1).trans fgO_u6;have dgOgI:gO≠gI:=by have:=(aI fgO_u6).1;omega
     have lgI:w.heap.size+2≤gI:=by omega
     rw[hu7,hgI];clear hu7 hK9;refine tkA 8 ⟨some 14,.build 63 #[(0,.tmp 9),(1,.tmp 13)],63,"l11_live.go:58",#[⟨3,.data⟩,⟨7,.data⟩],none⟩ ?_ (fun w hSw=>?_) ?_;rotate_left
     ·(try dsimp only at hSw);go_simp;(try with_reducible rfl)
     try simp only[Act.put,sT,sZ,sS]
     refine jg (i:=9) (o:=⟨some 3,.alloc 63,0,"l11_live.go:58",#[],none⟩) rfl rfl (by kernel_rfl) (fun K9 hK9=>?_);refine jC (v:=.pointer (some (Z u7.heap.size 0))) (w':=u7.alloc (.cells #[.slice none 0 0,.slice none 0 0] 63)) (by simp[execOp,go_sem]) (hK9 _ _ ⟨Bel.keeps (Bel.alloc _ _) c_u7,?_⟩);try simp only[Act.put,sT,sZ,sS]
     obtain⟨u8,hu8⟩:∃U,u7.alloc (.cells #[.slice none 0 0,.slice none 0 0] 63)=U:=⟨_,rfl⟩;obtain⟨X,hX⟩:∃g,u7.heap.size=g:=⟨_,rfl⟩;have b_u8:Below u7.heap.size u7 u8:=by rw[←hu8];exact Bel.alloc _ _
     have z_u8:Below w.heap.size w u8:=Bel.after z_u7 b_u8;have s_u8:u8.heap.size=X+1:=by rw[←hu8,←hX];simp
     have fX_u8:u8.heap[X]?=some (.cells #[.slice none 0 0,.slice none 0 0] 63 (0,0)):=by rw[←hu8,←hX];exact World.alloc_heap_new u7 _
     have c_u8:=Bel.keeps b_u8 c_u7;have w_u8:∀k,k<w.heap.size+2→u8.heap[k]?=wA.heap[k]?:=fun k hk=>(b_u8.block k (by have:=z_u7.size;omega)).trans (w_u7 k hk)
     have fgO_u8:u8.heap[gO]?=some (.cells (madeCells #[.slice none 0 0] n) 74 (0,0)):=(b_u8.block _ (aI fgO_u7).1).trans fgO_u7;have dgOX:gO≠X:=by have:=(aI fgO_u7).1;omega
     have fgI_u8:u8.heap[gI]?=some (.cells (madeCells #[.slice none 0 0] n) 74 (0,0)):=(b_u8.block _ (aI fgI_u7).1).trans fgI_u7;have dgIX:gI≠X:=by have:=(aI fgI_u7).1;omega
     have lX:w.heap.size+2≤X:=by omega
     rw[hu8,hX];clear hu8 hK9;refine jg (i:=10) (o:=⟨none,.store 63 (.tmp 3) (.tmp 14),0,"l11_live.go:58",#[⟨9,.data⟩,⟨8,.data⟩,⟨0,.phase⟩,⟨1,.phase⟩,⟨2,.phase⟩,⟨3,.phase⟩,⟨4,.phase⟩,⟨5,.phase⟩,⟨6,.phase⟩,⟨7,.phase⟩,⟨8,.phase⟩,⟨9,.phase⟩],none⟩) rfl rfl (by kernel_rfl) (fun K9 hK9=>?_);have x0:u8.cell? (Z X 0)=some (.slice none 0 0):=(je fX_u8 0).trans rfl;have x1:u8.cell? (Z X 1)=some (.slice none 0 0):=(je fX_u8 1).trans rfl;have x2:∀i,u8.frozen? (Z X i)=false:=fun i=>by simp[World.frozen?,fX_u8]
     refine Jc (u:=.slice (some (Z gI 0)) n n) (v:=.slice (some (Z gO 0)) n n) fX_u8 rfl rfl (by kernel_rfl) (by kernel_rfl) rfl rfl (hK9 _ _ ⟨?_,?_⟩)
     ·exact(Jb (by omega)).trans c_u8
     ·refine wpAnyH_done (by kernel_rfl) ?_ _;exact⟨gI,gO,X,rfl,Jd fgI_u8 fgO_u8 fX_u8 dgOgI.symm dgIX dgOX lgI lgO lX z_u8 w_u8⟩
    ·refine jC (v:=.pointer (some (Z u6.heap.size 0))) (w':=u6.alloc (.cells #[.slice none 0 0,.slice none 0 0] 63)) (by simp[execOp,go_sem]) (hK9 _ _ ⟨Bel.keeps (Bel.alloc _ _) c_u6,?_⟩);try simp only[Act.put,sT,sZ,sS]
     obtain⟨u9,hu9⟩:∃U,u6.alloc (.cells #[.slice none 0 0,.slice none 0 0] 63)=U:=⟨_,rfl⟩;obtain⟨X,hX⟩:∃g,u6.heap.size=g:=⟨_,rfl⟩;have b_u9:Below u6.heap.size u6 u9:=by rw[←hu9];exact Bel.alloc _ _
     have z_u9:Below w.heap.size w u9:=Bel.after z_u6 b_u9;have s_u9:u9.heap.size=X+1:=by rw[←hu9,←hX];simp
     have fX_u9:u9.heap[X]?=some (.cells #[.slice none 0 0,.slice none 0 0] 63 (0,0)):=by rw[←hu9,←hX];exact World.alloc_heap_new u6 _
     have c_u9:=Bel.keeps b_u9 c_u6;have w_u9:∀k,k<w.heap.size+2→u9.heap[k]?=wA.heap[k]?:=fun k hk=>(b_u9.block k (by have:=z_u6.size;omega)).trans (w_u6 k hk)
     have fgO_u9:u9.heap[gO]?=some (.cells (madeCells #[.slice none 0 0] n) 74 (0,0)):=(b_u9.block _ (aI fgO_u6).1).trans fgO_u6;have dgOX:gO≠X:=by have:=(aI fgO_u6).1;omega
     have lX:w.heap.size+2≤X:=by omega
     rw[hu9,hX];clear hu9 hK9;refine jg (i:=3) (o:=⟨some 9,.makeSlice 61 (.tmp 8) (.tmp 8),61,"l11_live.go:58",#[⟨2,.data⟩,⟨2,.data⟩],none⟩) rfl rfl (by kernel_rfl) (fun K9 hK9=>?_);refine jC (v:=.slice (some (Z u9.heap.size 0)) n n) (w':=u9.alloc (.cells (madeCells #[.slice none 0 0] n) 74)) (xy rfl rfl rfl (xC n hn u9)) (hK9 _ _ ⟨Bel.keeps (Bel.alloc _ _) c_u9,?_⟩);try simp only[Act.put,sT,sZ,sS]
     obtain⟨u10,hu10⟩:∃U,u9.alloc (.cells (madeCells #[.slice none 0 0] n) 74)=U:=⟨_,rfl⟩;obtain⟨gI,hgI⟩:∃g,u9.heap.size=g:=⟨_,rfl⟩;have b_u10:Below u9.heap.size u9 u10:=by rw[←hu10];exact Bel.alloc _ _
     have z_u10:Below w.heap.size w u10:=Bel.after z_u9 b_u10;have s_u10:u10.heap.size=gI+1:=by rw[←hu10,←hgI];simp
     have fgI_u10:u10.heap[gI]?=some (.cells (madeCells #[.slice none 0 0] n) 74 (0,0)):=by rw[←hu10,←hgI];exact World.alloc_heap_new u9 _
     have c_u10:=Bel.keeps b_u10 c_u9;have w_u10:∀k,k<w.heap.size+2→u10.heap[k]?=wA.heap[k]?:=fun k hk=>(b_u10.block k (by have:=z_u9.size;omega)).trans (w_u9 k hk)
     have fgO_u10:u10.heap[gO]?=some (.cells (madeCells #[.slice none 0 0] n) 74 (0,0)):=(b_u10.block _ (aI fgO_u9).1).trans fgO_u9;have dgOgI:gO≠gI:=by have:=(aI fgO_u9).1;omega
     have fX_u10:u10.heap[X]?=some (.cells #[.slice none 0 0,.slice none 0 0] 63 (0,0)):=(b_u10.block _ (aI fX_u9).1).trans fX_u9;have dXgI:X≠gI:=by have:=(aI fX_u9).1;omega
     have lgI:w.heap.size+2≤gI:=by omega
     rw[hu10,hgI];clear hu10 hK9;refine tkA 8 ⟨some 14,.build 63 #[(0,.tmp 9),(1,.tmp 13)],63,"l11_live.go:58",#[⟨3,.data⟩,⟨7,.data⟩],none⟩ ?_ (fun w hSw=>?_) ?_;rotate_left
     ·(try dsimp only at hSw);go_simp;(try with_reducible rfl)
     try simp only[Act.put,sT,sZ,sS]
     refine jg (i:=10) (o:=⟨none,.store 63 (.tmp 3) (.tmp 14),0,"l11_live.go:58",#[⟨9,.data⟩,⟨8,.data⟩,⟨0,.phase⟩,⟨1,.phase⟩,⟨2,.phase⟩,⟨3,.phase⟩,⟨4,.phase⟩,⟨5,.phase⟩,⟨6,.phase⟩,⟨7,.phase⟩,⟨8,.phase⟩,⟨9,.phase⟩],none⟩) rfl rfl (by kernel_rfl) (fun K9 hK9=>?_);have x0:u10.cell? (Z X 0)=some (.slice none 0 0):=(je fX_u10 0).trans rfl;have x1:u10.cell? (Z X 1)=some (.slice none 0 0):=(je fX_u10 1).trans rfl;have x2:∀i,u10.frozen? (Z X i)=false:=fun i=>by simp[World.frozen?,fX_u10]
     refine Jc (u:=.slice (some (Z gI 0)) n n) (v:=.slice (some (Z gO 0)) n n) fX_u10 rfl rfl (by kernel_rfl) (by kernel_rfl) rfl rfl (hK9 _ _ ⟨?_,?_⟩)
     ·exact(Jb (by omega)).trans c_u10
     ·refine wpAnyH_done (by kernel_rfl) ?_ _;exact⟨gI,gO,X,rfl,Jd fgI_u10 fgO_u10 fX_u10 dgOgI.symm dXgI.symm dgOX lgI lgO lX z_u10 w_u10⟩
   ·refine jC (v:=.pointer (some (Z wd.heap.size 0))) (w':=wd.alloc (.cells #[.slice none 0 0,.slice none 0 0] 63)) (by simp[execOp,go_sem]) (hK9 _ _ ⟨Bel.keeps (Bel.alloc _ _) c_wd,?_⟩);try simp only[Act.put,sT,sZ,sS]
    obtain⟨u11,hu11⟩:∃U,wd.alloc (.cells #[.slice none 0 0,.slice none 0 0] 63)=U:=⟨_,rfl⟩;obtain⟨X,hX⟩:∃g,wd.heap.size=g:=⟨_,rfl⟩;have b_u11:Below wd.heap.size wd u11:=by rw[←hu11];exact Bel.alloc _ _
    have z_u11:Below w.heap.size w u11:=Bel.after z_wd b_u11;have s_u11:u11.heap.size=X+1:=by rw[←hu11,←hX];simp
    have fX_u11:u11.heap[X]?=some (.cells #[.slice none 0 0,.slice none 0 0] 63 (0,0)):=by rw[←hu11,←hX];exact World.alloc_heap_new wd _
    have c_u11:=Bel.keeps b_u11 c_wd;have w_u11:∀k,k<w.heap.size+2→u11.heap[k]?=wA.heap[k]?:=fun k hk=>(b_u11.block k (by have:=z_wd.size;omega)).trans (w_wd k hk)
    have lX:w.heap.size+2≤X:=by omega
    rw[hu11,hX];clear hu11 hK9;refine zu (i:=3) (i2:=7) (o:=⟨some 9,.makeSlice 61 (.tmp 8) (.tmp 8),61,"l11_live.go:58",#[⟨2,.data⟩,⟨2,.data⟩],none⟩) (o2:=⟨some 13,.makeSlice 61 (.tmp 12) (.tmp 12),61,"l11_live.go:58",#[⟨6,.data⟩,⟨6,.data⟩],none⟩) rfl rfl rfl rfl (by kernel_rfl) (fun K9 hK9=>?_) (fun K9 hK9=>?_)
    ·refine jC (v:=.slice (some (Z u11.heap.size 0)) n n) (w':=u11.alloc (.cells (madeCells #[.slice none 0 0] n) 74)) (xy rfl rfl rfl (xC n hn u11)) (hK9 _ _ ⟨Bel.keeps (Bel.alloc _ _) c_u11,?_⟩);try simp only[Act.put,sT,sZ,sS]
     obtain⟨u12,hu12⟩:∃U,u11.alloc (.cells (madeCells #[.slice none 0 0] n) 74)=U:=⟨_,rfl⟩;obtain⟨gI,hgI⟩:∃g,u11.heap.size=g:=⟨_,rfl⟩;have b_u12:Below u11.heap.size u11 u12:=by rw[←hu12];exact Bel.alloc _ _
     have z_u12:Below w.heap.size w u12:=Bel.after z_u11 b_u12;have s_u12:u12.heap.size=gI+1:=by rw[←hu12,←hgI];simp
     have fgI_u12:u12.heap[gI]?=some (.cells (madeCells #[.slice none 0 0] n) 74 (0,0)):=by rw[←hu12,←hgI];exact World.alloc_heap_new u11 _
     have c_u12:=Bel.keeps b_u12 c_u11;have w_u12:∀k,k<w.heap.size+2→u12.heap[k]?=wA.heap[k]?:=fun k hk=>(b_u12.block k (by have:=z_u11.size;omega)).trans (w_u11 k hk)
     have fX_u12:u12.heap[X]?=some (.cells #[.slice none 0 0,.slice none 0 0] 63 (0,0)):=(b_u12.block _ (aI fX_u11).1).trans fX_u11;have dXgI:X≠gI:=by have:=(aI fX_u11).1;omega
     have lgI:w.heap.size+2≤gI:=by omega
     rw[hu12,hgI];clear hu12 hK9;refine jg (i:=7) (o:=⟨some 13,.makeSlice 61 (.tmp 12) (.tmp 12),61,"l11_live.go:58",#[⟨6,.data⟩,⟨6,.data⟩],none⟩) rfl rfl (by kernel_rfl) (fun K9 hK9=>?_);refine jC (v:=.slice (some (Z u12.heap.size 0)) n n) (w':=u12.alloc (.cells (madeCells #[.slice none 0 0] n) 74)) (xy rfl rfl rfl (xC n hn u12)) (hK9 _ _ ⟨Bel.keeps (Bel.alloc _ _) c_u12,?_⟩);try simp only[Act.put,sT,sZ,sS]
     obtain⟨u13,hu13⟩:∃U,u12.alloc (.cells (madeCells #[.slice none 0 0] n) 74)=U:=⟨_,rfl⟩;obtain⟨gO,hgO⟩:∃g,u12.heap.size=g:=⟨_,rfl⟩;have b_u13:Below u12.heap.size u12 u13:=by rw[←hu13];exact Bel.alloc _ _
     have z_u13:Below w.heap.size w u13:=Bel.after z_u12 b_u13;have s_u13:u13.heap.size=gO+1:=by rw[←hu13,←hgO];simp
     have fgO_u13:u13.heap[gO]?=some (.cells (madeCells #[.slice none 0 0] n) 74 (0,0)):=by rw[←hu13,←hgO];exact World.alloc_heap_new u12 _
     have c_u13:=Bel.keeps b_u13 c_u12;have w_u13:∀k,k<w.heap.size+2→u13.heap[k]?=wA.heap[k]?:=fun k hk=>(b_u13.block k (by have:=z_u12.size;omega)).trans (w_u12 k hk)
     have fX_u13:u13.heap[X]?=some (.cells #[.slice none 0 0,.slice none 0 0] 63 (0,0)):=(b_u13.block _ (aI fX_u12).1).trans fX_u12;have dXgO:X≠gO:=by have:=(aI fX_u12).1;omega
     have fgI_u13:u13.heap[gI]?=some (.cells (madeCells #[.slice none 0 0] n) 74 (0,0)):=(b_u13.block _ (aI fgI_u12).1).trans fgI_u12;have dgIgO:gI≠gO:=by have:=(aI fgI_u12).1;omega
     have lgO:w.heap.size+2≤gO:=by omega
     rw[hu13,hgO];clear hu13 hK9;refine tkA 8 ⟨some 14,.build 63 #[(0,.tmp 9),(1,.tmp 13)],63,"l11_live.go:58",#[⟨3,.data⟩,⟨7,.data⟩],none⟩ ?_ (fun w hSw=>?_) ?_;rotate_left
     ·(try dsimp only at hSw);go_simp;(try with_reducible rfl)
     try simp only[Act.put,sT,sZ,sS]
     refine jg (i:=10) (o:=⟨none,.store 63 (.tmp 3) (.tmp 14),0,"l11_live.go:58",#[⟨9,.data⟩,⟨8,.data⟩,⟨0,.phase⟩,⟨1,.phase⟩,⟨2,.phase⟩,⟨3,.phase⟩,⟨4,.phase⟩,⟨5,.phase⟩,⟨6,.phase⟩,⟨7,.phase⟩,⟨8,.phase⟩,⟨9,.phase⟩],none⟩) rfl rfl (by kernel_rfl) (fun K9 hK9=>?_);have x0:u13.cell? (Z X 0)=some (.slice none 0 0):=(je fX_u13 0).trans rfl;have x1:u13.cell? (Z X 1)=some (.slice none 0 0):=(je fX_u13 1).trans rfl;have x2:∀i,u13.frozen? (Z X i)=false:=fun i=>by simp[World.frozen?,fX_u13]
     refine Jc (u:=.slice (some (Z gI 0)) n n) (v:=.slice (some (Z gO 0)) n n) fX_u13 rfl rfl (by kernel_rfl) (by kernel_rfl) rfl rfl (hK9 _ _ ⟨?_,?_⟩)
     ·exact(Jb (by omega)).trans c_u13
     ·refine wpAnyH_done (by kernel_rfl) ?_ _;exact⟨gI,gO,X,rfl,Jd fgI_u13 fgO_u13 fX_u13 dgIgO dXgI.symm dXgO.symm lgI lgO lX z_u13 w_u13⟩
    ·refine jC (v:=.slice (some (Z u11.heap.size 0)) n n) (w':=u11.alloc (.cells (madeCells #[.slice none 0 0] n) 74)) (xy rfl rfl rfl (xC n hn u11)) (hK9 _ _ ⟨Bel.keeps (Bel.alloc _ _) c_u11,?_⟩);try simp only[Act.put,sT,sZ,sS]
     obtain⟨u14,hu14⟩:∃U,u11.alloc (.cells (madeCells #[.slice none 0 0] n) 74)=U:=⟨_,rfl⟩;obtain⟨gO,hgO⟩:∃g,u11.heap.size=g:=⟨_,rfl⟩;have b_u14:Below u11.heap.size u11 u14:=by rw[←hu14];exact Bel.alloc _ _
     have z_u14:Below w.heap.size w u14:=Bel.after z_u11 b_u14;have s_u14:u14.heap.size=gO+1:=by rw[←hu14,←hgO];simp
     have fgO_u14:u14.heap[gO]?=some (.cells (madeCells #[.slice none 0 0] n) 74 (0,0)):=by rw[←hu14,←hgO];exact World.alloc_heap_new u11 _
     have c_u14:=Bel.keeps b_u14 c_u11;have w_u14:∀k,k<w.heap.size+2→u14.heap[k]?=wA.heap[k]?:=fun k hk=>(b_u14.block k (by have:=z_u11.size;omega)).trans (w_u11 k hk)
     have fX_u14:u14.heap[X]?=some (.cells #[.slice none 0 0,.slice none 0 0] 63 (0,0)):=(b_u14.block _ (aI fX_u11).1).trans fX_u11;have dXgO:X≠gO:=by have:=(aI fX_u11).1;omega
     have lgO:w.heap.size+2≤gO:=by omega
     rw[hu14,hgO];clear hu14 hK9;refine jg (i:=3) (o:=⟨some 9,.makeSlice 61 (.tmp 8) (.tmp 8),61,"l11_live.go:58",#[⟨2,.data⟩,⟨2,.data⟩],none⟩) rfl rfl (by kernel_rfl) (fun K9 hK9=>?_);refine jC (v:=.slice (some (Z u14.heap.size 0)) n n) (w':=u14.alloc (.cells (madeCells #[.slice none 0 0] n) 74)) (xy rfl rfl rfl (xC n hn u14)) (hK9 _ _ ⟨Bel.keeps (Bel.alloc _ _) c_u14,?_⟩);try simp only[Act.put,sT,sZ,sS]
     obtain⟨u15,hu15⟩:∃U,u14.alloc (.cells (madeCells #[.slice none 0 0] n) 74)=U:=⟨_,rfl⟩;obtain⟨gI,hgI⟩:∃g,u14.heap.size=g:=⟨_,rfl⟩;have b_u15:Below u14.heap.size u14 u15:=by rw[←hu15];exact Bel.alloc _ _
     have z_u15:Below w.heap.size w u15:=Bel.after z_u14 b_u15;have s_u15:u15.heap.size=gI+1:=by rw[←hu15,←hgI];simp
     have fgI_u15:u15.heap[gI]?=some (.cells (madeCells #[.slice none 0 0] n) 74 (0,0)):=by rw[←hu15,←hgI];exact World.alloc_heap_new u14 _
     have c_u15:=Bel.keeps b_u15 c_u14;have w_u15:∀k,k<w.heap.size+2→u15.heap[k]?=wA.heap[k]?:=fun k hk=>(b_u15.block k (by have:=z_u14.size;omega)).trans (w_u14 k hk)
     have fX_u15:u15.heap[X]?=some (.cells #[.slice none 0 0,.slice none 0 0] 63 (0,0)):=(b_u15.block _ (aI fX_u14).1).trans fX_u14;have dXgI:X≠gI:=by have:=(aI fX_u14).1;omega
     have fgO_u15:u15.heap[gO]?=some (.cells (madeCells #[.slice none 0 0] n) 74 (0,0)):=(b_u15.block _ (aI fgO_u14).1).trans fgO_u14;have dgOgI:gO≠gI:=by have:=(aI fgO_u14).1;omega
     have lgI:w.heap.size+2≤gI:=by omega
     rw[hu15,hgI];clear hu15 hK9;refine tkA 8 ⟨some 14,.build 63 #[(0,.tmp 9),(1,.tmp 13)],63,"l11_live.go:58",#[⟨3,.data⟩,⟨7,.data⟩],none⟩ ?_ (fun w hSw=>?_) ?_;rotate_left
     ·(try dsimp only at hSw);go_simp;(try with_reducible rfl)
     try simp only[Act.put,sT,sZ,sS]
     refine jg (i:=10) (o:=⟨none,.store 63 (.tmp 3) (.tmp 14),0,"l11_live.go:58",#[⟨9,.data⟩,⟨8,.data⟩,⟨0,.phase⟩,⟨1,.phase⟩,⟨2,.phase⟩,⟨3,.phase⟩,⟨4,.phase⟩,⟨5,.phase⟩,⟨6,.phase⟩,⟨7,.phase⟩,⟨8,.phase⟩,⟨9,.phase⟩],none⟩) rfl rfl (by kernel_rfl) (fun K9 hK9=>?_);have x0:u15.cell? (Z X 0)=some (.slice none 0 0):=(je fX_u15 0).trans rfl;have x1:u15.cell? (Z X 1)=some (.slice none 0 0):=(je fX_u15 1).trans rfl;have x2:∀i,u15.frozen? (Z X i)=false:=fun i=>by simp[World.frozen?,fX_u15]
     refine Jc (u:=.slice (some (Z gI 0)) n n) (v:=.slice (some (Z gO 0)) n n) fX_u15 rfl rfl (by kernel_rfl) (by kernel_rfl) rfl rfl (hK9 _ _ ⟨?_,?_⟩)
     ·exact(Jb (by omega)).trans c_u15
     ·refine wpAnyH_done (by kernel_rfl) ?_ _;exact⟨gI,gO,X,rfl,Jd fgI_u15 fgO_u15 fX_u15 dgOgI.symm dXgI.symm dXgO.symm lgI lgO lX z_u15 w_u15⟩
end Go.Proofs.YtkbhbekfniadhaaGreat
