/- Critical edges get blocks of their own: the model's Split. -/
import Derived.Test.YtkbhbekfniadhaaGreatTkK
import Derived.Test.YtkbhbekfniadhaaGreatTk0
import Derived.Test.YtkbhbekfniadhaaGreatKDfs
import Derived.Test.YtkbhbekfniadhaaGreatKL2Co
import Derived.Test.YtkbhbekfniadhaaGreatKCkT
import Derived.Test.YtkbhbekfniadhaaGreatKCrit
import Derived.Deep.DeepCutAuto
set_option maxRecDepth 100000
set_option maxHeartbeats 16000000
namespace Go.Proofs.YtkbhbekfniadhaaGreat
open Go.ChangeShapes Go.WideShapes Go.ChangeAt Go.RowKit
set_option linter.unusedVariables false
theorem ahV {w:World}{v:Value}{F:FnD}(h:kJ w v F):F.blocks.length≤9223372036854775807:=by
 obtain⟨bv,_,a,cap,_,hm,_⟩:=h;exact hm
theorem crit_in {F:FnD}(hS:jm F){e:jy}(he:e∈critUp F F.blocks.length):∃f t:Nat,e.fr=(f:Int)∧e.v=(t:Int)∧f<F.blocks.length∧t<F.blocks.length:=by
 have key:∀k,k≤F.blocks.length→∀e∈critUp F k,∃f t:Nat,e.fr=(f:Int)∧e.v=(t:Int)∧f<F.blocks.length∧t<F.blocks.length:=by
  intro k;induction k with
  | zero=>intro _ e he;cases he
  | succ k ih=>
   intro hk e he;rcases List.mem_append.1 (show e∈critUp F k ++ yS F k from he) with he | he
   ·exact ih (by omega) e he
   ·unfold yS at he;split at he
    ·unfold qi at he;obtain⟨s,hs,rfl⟩:=List.mem_map.1 he;have:=JJ hS k s ((List.mem_filter.1 hs).1);exact⟨k,s.toNat,rfl,by show s=_;omega,by omega,by omega⟩
    ·cases he
 exact key _ (Nat.le_refl _) e he
theorem agh {bs0:List jc}{es:List jy}{k:Nat}{e:jy}{f t:Nat}{x y:jc}(he:es[k]?=some e)(hf:e.fr=(f:Int))(ht:e.v=(t:Int))(hfl:f<bs0.length)(htl:t<bs0.length)
  (hx:(ko bs0 es k ++ [agl e])[f]?=some x) (hy:((ko bs0 es k ++ [agl e]).set f { x with term:=Xz e ((bs0.length+k:Nat):Int) f x.term })[t]?=some y) :
  ((ko bs0 es k ++ [agl e]).set f { x with term:=Xz e ((bs0.length+k:Nat):Int) f x.term }).set t { y with phis:=y.phis.map (Yy e ((bs0.length+k:Nat):Int) t) }=ko bs0 es (k+1):=by
 have hl:=QE bs0 es k;unfold ko at hx hy ⊢;rw[List.append_assoc] at hx hy ⊢;rw[List.getElem?_append_left (by omega)] at hx;rw[List.set_append_left _ _ (by omega)] at hy ⊢;rw[List.getElem?_append_left (by rw[List.length_set];omega)] at hy;rw[List.set_append_left _ _ (by rw[List.length_set];omega),←lead_two hf ht hx hy];have:=acJ (bs:=bs0) he;unfold ko at this;rw[this]
def agi (w:World)(F:FnD)(b:Bool)(e:Ending)(w':World):Prop := ∃bv own,e=.returned (.tuple #[.agg #[bv,vi F.values],.bool b])∧FnO w.heap.size own w' bv F.blocks∧Below w.heap.size w w'
theorem adB {F:FnD}(h:¬(kF F=0∧F.blocks.length+(JV F).length≤16)):JW F=F∧yq F=false:=by
 have:yq F=false:=by unfold yq;simpa using h
 exact⟨by unfold JW;rw[if_neg (by rw[this];simp)],this⟩
theorem agj {F:FnD}(h:kF F=0∧F.blocks.length+(JV F).length≤16):JW F = { F with blocks:=ko F.blocks (JV F) (JV F).length }∧yq F=true:=by
 have:yq F=true:=by unfold yq;simpa using h
 exact⟨by unfold JW;rw[if_pos this],this⟩
theorem JQ (F:FnD):(JW F).values=F.values:=by
 unfold JW;split <;> rfl
theorem kH {w:World}{b:Nat}{c:Array Value}{t:TypeId}{z:Nat × Nat}(h:w.heap[b]?=some (.cells c t z))(i:Nat):w.cell? (Z b i)=c[i]?:=by simp[World.cell?,h]
theorem KO {w:World}{b:Nat}{c:Array Value}{t:TypeId}(h:w.heap[b]?=some (.cells c t (0,0)))(i:Nat):w.frozen? (Z b i)=false:=by simp[World.frozen?,h]
theorem aat {F:FnD}(h:kF F=0):jm F:=by
 unfold kF at h;by_cases h1:¬jm F∨JU F
 ·rw[if_pos h1] at h;cases h
 ·exact Classical.not_not.1 (fun h2=>h1 (.inl h2))
structure Ji (lo O:Nat)(w5 w:World)(vals:Int)(own:k6)(bv:Value)(bs:List jc):Prop where
 box:w.heap[O]?=some (.cells #[bv,vi vals] 26 (0,0))
 fn:FnO lo own w bv bs
 room:kI own w lo bv bs.length
 bel:Below lo w5 w
 lo:lo≤w5.heap.size
 off:∀g,g<w5.heap.size→O<g→w.heap[g]?=w5.heap[g]?∧3<(own g).1
 out:3<(own O).1
theorem Ji.keep {lo O:Nat}{w5 w w':World}{vals:Int}{own:k6}{bv:Value}{bs:List jc}(h:Ji lo O w5 w vals own bv bs)(hb:Below w.heap.size w w'):Ji lo O w5 w' vals own bv bs :=
 ⟨(hb.block O (aI h.box).1).trans h.box,h.fn.keep hb,h.room.keep hb,h.bel.trans (hb.mono (Nat.le_trans h.lo h.bel.size)),h.lo,fun g hg hO=>⟨(hb.block g (Nat.lt_of_lt_of_le hg h.bel.size)).trans (h.off g hg hO).1,(h.off g hg hO).2⟩,h.out⟩
theorem Ji.snoc {lo O:Nat}{w5 w wa:World}{vals:Int}{own:k6}{bv v':Value}{bs:List jc}{xs:List Value}(h:Ji lo O w5 w vals own bv bs)(hlO:lo≤O)(t:QY)(hxs:w.ownsRow lo 43 6 bv bs.length xs)
  (hown:wa.ownsRow lo 43 6 v' (bs.length+1) (xs ++ [.slice none 0 0,.slice none 0 0,vi t.k,vi t.a,vi t.t,vi t.e])) (hg:w.grownBy wa bv.ownBlock) (ho:v'.ownBlock=bv.ownBlock∨v'.ownBlock=some w.heap.size) (hm:bs.length≤1000000) :
  ∃own',(∀b,3<(own b).1→b<w.heap.size→3<(own' b).1)∧Ji lo O w5 (wa.setCell (Z O 0) v') vals own' v' (bs ++ [⟨[],[],t⟩]):=by
 have J:∀g,bv.ownBlock=some g→own g=(0,0,0):=fun g hg=>h.room.blk hg
 have I:O<w.heap.size:=(aI h.box).1;have hsz:=h.bel.size;obtain⟨g',cap',cur',hv',hlg,hgc,_⟩:∃g cap cur,v'=sq g 0 (bs.length+1) cap∧lo≤g∧wa.heap[g]?=some (.cells cur 43 (0,0))∧True:=by
  rcases hown.2 with ⟨_,h0⟩ | ⟨g,cap,cur,h1,h2,h3,_⟩
  ·omega
  ·exact⟨g,cap,cur,h1,h2,h3,trivial⟩
 obtain⟨g,hvg,hgo,hf,hr⟩:=h.fn.snoc h.room hxs t hown hg ho hm;have H:∀b,3<(own b).1→b<w.heap.size→b≠g:=fun b hb B e=>by
  subst e;rcases hgo with h9 | h9
  ·rw[h9] at hb;simp at hb
  ·omega
 have L:=H O h.out I
 have r:∀b,3<(own b).1→b<w.heap.size→wa.heap[b]?=w.heap[b]?:=fun b hb B=>hg.block b B (fun e=>by
  have:=J b e.symm;rw[this] at hb
  simp at hb)
 have K:wa.heap[O]?=some (.cells #[bv,vi vals] 26 (0,0)):=(r O h.out I).trans h.box;have G:∀b,b≠O→(wa.setCell (Z O 0) v').heap[b]?=wa.heap[b]?:=fun b hb=>Below.heap_setCell _ _ _ b hb
 have M:3<(rowAt own g O).1:=aau h.out L;refine⟨rowAt own g,fun b hb B=>aau hb (H b hb B),?_,hf.same (fun b hb=>G b (fun e=>by rw[e] at hb;omega)) (by simp),?_,?_,h.lo,fun b hb hO=>?_,M⟩
 ·obtain⟨hl,hk⟩:=aI K;show(wa.heap.modify O _)[O]?=_;rw[Array.getElem?_eq_getElem (by rw[Array.size_modify];exact hl),Array.getElem_modify_self,hk]
  rfl
 ·rw[List.length_append];exact hr.set _ _ _
 ·refine(h.bel.trans ⟨hg.os,hg.tape,hg.output,hg.size,fun b hb=>hg.block b (by have:=h.lo;omega) (fun e=>?_)⟩).setCell (p:=(Z O 0)) hlO _;have h9:=J b e.symm;have:=h.fn.low b (by rw[h9];simp);omega
 ·obtain⟨h8,h9⟩:=h.off b hb hO;have B:b<w.heap.size:=Nat.lt_of_lt_of_le hb hsz;exact⟨((G b (by omega)).trans (r b h9 B)).trans h8,aau h9 (H b h9 B)⟩
theorem Ji.turn {lo O:Nat}{w5 w w':World}{vals:Int}{own:k6}{bv:Value}{bs bs':List jc}(h:Ji lo O w5 w vals own bv bs){b o:Nat}{v:Value}(hb:(own b).1≤3)(hw:w'=w.setCell (Z b o) v)(hf:FnO lo own w' bv bs')(hl:bs'.length=bs.length):Ji lo O w5 w' vals own bv bs':=by
 subst hw;have r:∀g,g≠b→(w.setCell (Z b o) v).heap[g]?=w.heap[g]?:=fun g hg=>Below.heap_setCell _ _ _ g hg
 refine⟨(r O (fun e=>by have:=h.out;rw[e] at this;omega)).trans h.box,hf,by rw[hl];exact h.room.set _ _ _,h.bel.setCell (p:=(Z b o)) (h.fn.low b hb) _,h.lo,fun g hg hO=>?_,h.out⟩;obtain⟨h8,h9⟩:=h.off g hg hO;exact⟨(r g (fun e=>by rw[e] at h9;omega)).trans h8,h9⟩
theorem Ji.turnTerm {lo O:Nat}{w5 w:World}{vals:Int}{own:k6}{bs:List jc}{rb roff n cap i:Nat}{x:jc}(h:Ji lo O w5 w vals own (sq rb roff n cap) bs)(hx:bs[i]?=some x)(t:QY):Ji lo O w5 (yK w rb (roff+i*6+2) t) vals own (sq rb roff n cap) (bs.set i { x with term:=t }):=by
 have hf:=h.fn.putTerm hx rfl t;obtain⟨G,roff',cap',pv,lv,hv',hb,_⟩:=h.fn.aez hx;simp at hv';obtain⟨⟨rfl,rfl⟩,_⟩:=hv';have B:(own rb).1≤3:=by rw[hb];simp
 have r:∀g,g≠rb→(yK w rb (roff+i*6+2) t).heap[g]?=w.heap[g]?:=fun g hg=>by
  unfold yK;simp only[Below.heap_setCell _ _ _ _ (show g≠((Z rb _):Addr).block from hg)]
 refine⟨(r O (fun e=>by have:=h.out;rw[e] at this;omega)).trans h.box,hf,?_,?_,h.lo,fun g hg hO=>?_,h.out⟩
 ·rw[List.length_set];exact(((h.room.set _ _ _).set _ _ _).set _ _ _).set _ _ _
 ·exact(((h.bel.setCell (p:=(Z rb _)) (h.fn.low rb B) _).setCell (p:=(Z rb _)) (h.fn.low rb B) _).setCell (p:=(Z rb _)) (h.fn.low rb B) _).setCell (p:=(Z rb _)) (h.fn.low rb B) _
 ·obtain⟨h8,h9⟩:=h.off g hg hO;exact⟨(r g (fun e=>by rw[e] at h9;omega)).trans h8,h9⟩
theorem Ji.aside {lo O:Nat}{w5 w:World}{vals:Int}{own:k6}{bv:Value}{bs:List jc}(h:Ji lo O w5 w vals own bv bs){b:Nat}(hb:w5.heap.size≤b)(hown:3<(own b).1)(hO:b≠O)(o:Nat)(v:Value):Ji lo O w5 (w.setCell (Z b o) v) vals own bv bs:=by
 have r:∀g,g≠b→(w.setCell (Z b o) v).heap[g]?=w.heap[g]?:=fun g hg=>Below.heap_setCell _ _ _ g hg
 refine⟨(r O (fun e=>hO e.symm)).trans h.box,h.fn.same (fun g hg=>r g (fun e=>by rw[e] at hg;omega)) (by simp),h.room.set _ _ _,h.bel.setCell (p:=(Z b o)) (Nat.le_trans h.lo hb) _,h.lo,fun g hg t=>?_,h.out⟩;obtain⟨h8,h9⟩:=h.off g hg t;exact⟨(r g (by omega)).trans h8,h9⟩
theorem Ji.fresh {lo O:Nat}{w5 w:World}{vals:Int}{own:k6}{bv:Value}{bs:List jc}(h:Ji lo O w5 w vals own bv bs){b:Nat}(hb:w.heap.size≤b):3<(own b).1:=Nat.lt_of_not_le (fun h9=>by have:=h.fn.high b h9;omega)
theorem Ji.congr {lo O:Nat}{w5 w:World}{vals:Int}{own:k6}{bv:Value}{bs bs':List jc}(h:Ji lo O w5 w vals own bv bs)(e:bs=bs'):Ji lo O w5 w vals own bv bs':=by rw[←e];exact h
theorem Ji.shape {lo O:Nat}{w5 w:World}{vals:Int}{own:k6}{bv:Value}{bs:List jc}(h:Ji lo O w5 w vals own bv bs){n:Nat}(hn:bs.length=n):∃a c,bv=.slice a n c:=by
 obtain⟨a,c,e⟩:=h.fn.rows.is;exact⟨a,c,by rw[e,hn]⟩
theorem FnO.armsC {lo:Nat}{own:k6}{w:World}{bs:List jc}{rb roff n cap i g:Nat}(h:FnO lo own w (sq rb roff n cap) bs){x:jc}(hx:bs[i]?=some x){p:yy}(hp:x.phis[g]?=some p){pa:Option Addr}{pn pcap:Nat}(hc:w.cell? (Z rb (roff+i*6))=some (.slice pa pn pcap)):∃pb poff aa acap,pa=some (Z pb poff)∧own pb=(1,i,0)∧w.cell? (Z pb (poff+g*2+1))=some (.slice aa p.arms.length acap)∧(0<p.arms.length→∃ab aoff,aa=some (Z ab aoff)∧own ab=(3,i,g))∧p.arms.length≤9223372036854775807:=by
 obtain⟨r,roff',cap',pv,lv,hv',hb,c0,c1,c2,c3,c4,c5,hps,_⟩:=h.aez hx;simp at hv';obtain⟨⟨rfl,rfl⟩,_⟩:=hv';rw[c0] at hc;simp at hc;subst hc;obtain⟨pb,poff,hpa,hpb,_,av,h1,h2⟩:=hps.get hp;obtain⟨aa,acap,rfl,hm9,h3⟩:=h2;exact⟨pb,poff,aa,acap,hpa,hpb,h1,fun hp=>by obtain⟨ab,aoff,e,h4,_⟩:=h3 hp;exact⟨ab,aoff,e,h4⟩,hm9⟩
theorem Ji.ends {lo O:Nat}{w5 w:World}{vals:Int}{own:k6}{rb n cap:Nat}{bs:List jc}{f:Nat}{x:jc}(h:Ji lo O w5 w vals own (sq rb 0 n cap) bs)(hx:bs[f]?=some x):w.cell? (Z rb (f*6+2))=some (vi x.term.k)∧w.cell? (Z rb (f*6+2+1))=some (vi x.term.a)∧w.cell? (Z rb (f*6+2+2))=some (vi x.term.t)∧w.cell? (Z rb (f*6+2+3))=some (vi x.term.e)∧Hid (∀o,w.frozen? (Z rb o)=false):=by
 obtain⟨r,roff',cap',pv,lv,hv',hb,c0,c1,c2,c3,c4,c5,_,_,hf⟩:=h.fn.aez hx;simp at hv';obtain⟨⟨rfl,rfl⟩,_⟩:=hv';simp only[Nat.zero_add] at c2 c3 c4 c5;exact⟨c2,c3,c4,c5,hf⟩
theorem acr {α:Type}{l:List α}{i:Nat}{x:α}(h:l[i]?=some x):l.set i x=l:=by
 apply List.ext_getElem?
 intro j;by_cases e:j=i
 ·subst e;rw[List.getElem?_set_self (List.getElem?_eq_some_iff.1 h).1,h]
 ·rw[List.getElem?_set_ne (by omega)]
theorem adC {w:World}{b o g:Nat}{t:QY}(h:g≠b):(yK w b o t).heap[g]?=w.heap[g]?:=by
 unfold yK;simp only[Below.heap_setCell _ _ _ _ (show g≠((Z b _):Addr).block from h)]
theorem Ji.phisC {lo O:Nat}{w5 w:World}{vals:Int}{own:k6}{rb n cap:Nat}{bs:List jc}{t:Nat}{y:jc}(h:Ji lo O w5 w vals own (sq rb 0 n cap) bs)(hy:bs[t]?=some y):∃pa pn pcap,w.cell? (Z rb (t*6))=some (.slice pa pn pcap)∧Hid (y.phis.length=pn)∧pn≤9223372036854775807:=by
 obtain⟨r,roff',cap',pv,lv,hv',hb,c0,c1,c2,c3,c4,c5,hp,_⟩:=h.fn.aez hy;simp at hv';obtain⟨⟨rfl,rfl⟩,_⟩:=hv';simp only[Nat.zero_add] at c0;obtain⟨pa,pcap,rfl,hm9,_⟩:=hp;exact⟨pa,_,pcap,c0,rfl,hm9⟩
theorem leadT_at {e:jy}{at0:Int}{f:Nat}(hf:e.fr=(f:Int))(t:QY):Xz e at0 f t=⟨t.k,t.a,if t.t=e.v then at0 else t.t,if t.e=e.v then at0 else t.e⟩:=by
 unfold Xz;simp[hf]
def ahW (lo O:Nat)(w5:World)(vals:Int)(F:FnD)(es:List jy)(m:Nat)(i:Value)(wr:World):Prop := ∃(k:Nat) (bv:Value) (own':k6),k≤m∧i=vi k∧Ji lo O w5 wr vals own' bv (ko F.blocks es k)
theorem abA (v:Value)(F:FnD)(w:World)(hF:kJ w v F)(hs:JR F) :
  Calls Tryz.prog 83 #[v] w fun e w'=>agi w (JW F) (yq F) e w':=by
 have HF:Hid (kJ w v F):=hF;have bj:Hid (JR F):=hs;obtain⟨n,HN⟩:∃n,Hid (F.blocks.length=n):=⟨_,rfl⟩;obtain⟨vals,HV⟩:∃x,Hid (F.values=x):=⟨_,rfl⟩;obtain⟨ba,bcap,rfl⟩:=hF.out HN.out HV.out;have bb:n≤9223372036854775807:=by rw[←HN.out];exact ahV hF
 clear hF hs;obtain⟨wA,hwA⟩:∃wA,(w.alloc (.cells #[.slice ba n bcap,vi vals] 26)).alloc (.cells #[.slice none 0 0,vi 0] 26)=wA:=⟨_,rfl⟩;have BA:Hid (Below w.heap.size w wA):=by rw[←hwA];exact Bel.after (Bel.alloc _ _) (Bel.alloc _ _)
 have be:wA.heap.size=w.heap.size+1+1:=by rw[←hwA];simp
 have XA:Hid (wA.heap[w.heap.size]?=some (.cells #[.slice ba n bcap,vi vals] 26 (0,0))):=by
  rw[←hwA,Below.heap_alloc _ _ _ (by simp)];exact World.alloc_heap_new w _
 have RA:Hid (wA.heap[w.heap.size+1]?=some (.cells #[.slice none 0 0,vi 0] 26 (0,0))):=by
  rw[←hwA];have:=World.alloc_heap_new (w.alloc (.cells #[.slice ba n bcap,vi vals] 26)) (.cells #[.slice none 0 0,vi 0] 26)
  rwa [World.size_alloc] at this
 have a0:wA.cell? (Z w.heap.size 0)=some (.slice ba n bcap):=(kH XA.out 0).trans rfl;have a1:wA.cell? (Z w.heap.size 1)=some (vi vals):=(kH XA.out 1).trans rfl;go_enter Tryz.func83,Tryz.ntmps83
 go_wp2_with fail
 try rw[hwA]
 clear hwA;refine(adU _ F _ (HF.out.later BA.out) bj.out).mono ?_;rintro e w2 ⟨bv,own,rfl,hfo,hrr,b2⟩;rw[HV.out];have V:Hid (FnO wA.heap.size own w2 bv F.blocks):=hfo;have aZ:Hid (kI own w2 wA.heap.size bv F.blocks.length):=hrr;have B2:Hid (Below w.heap.size w w2):=Bel.after BA.out b2;have aP:Hid (Below wA.heap.size wA w2):=b2;replace a0:=Bel.keeps b2 a0;replace a1:=Bel.keeps b2 a1;have bc:=b2.size;clear hfo hrr b2;obtain⟨sa,scap,rfl⟩:∃a c,bv=.slice a n c:=by
  obtain⟨a,c,e⟩:=V.out.rows.is;exact⟨a,c,by rw[e,HN.out]⟩
 have f0:=Bel.keeps (Bel.alloc w2 (.cells #[.slice sa n scap,vi vals] 26)) a0;have f1:=Bel.keeps (Bel.alloc w2 (.cells #[.slice sa n scap,vi vals] 26)) a1;go_wp2_with fail
 obtain⟨w3,hw3⟩:∃W,w2.alloc (.cells #[.slice sa n scap,vi vals] 26)=W:=⟨_,rfl⟩;have U:Hid (Below w2.heap.size w2 w3):=by rw[←hw3];exact Bel.alloc _ _
 have bJ:w3.heap.size=w2.heap.size+1:=by rw[←hw3];simp
 have O3:Hid (w3.heap[w2.heap.size]?=some (.cells #[.slice sa n scap,vi vals] 26 (0,0))):=by rw[←hw3];exact World.alloc_heap_new w2 _
 rw[hw3] at f0 f1;try rw[hw3]
 clear hw3 a0 a1;have aQ:Hid (FnO wA.heap.size own w3 (.slice sa n scap) F.blocks):=V.out.keep U.out;have a4:Hid (kI own w3 wA.heap.size (.slice sa n scap) F.blocks.length):=aZ.out.keep U.out;have R3:Hid (w3.heap[w.heap.size+1]?=some (.cells #[.slice none 0 0,vi 0] 26 (0,0))):=(U.out.block _ (by omega)).trans ((aP.out.block _ (by omega)).trans RA.out);have B3:Hid (Below w.heap.size w w3):=Bel.after B2.out U.out;have aV:Hid (3<(own w2.heap.size).1):=by
  have:¬(own w2.heap.size).1≤3:=fun h=>by have:=V.out.high _ h;omega
  exact Nat.lt_of_not_le this
 refine(aa8 _ F _ (HF.out.later B3.out)).mono ?_;rintro e w4 ⟨rfl,b4⟩;obtain⟨ck,HCK⟩:∃c,Hid (kF F=c):=⟨_,rfl⟩;rw[HCK.out];obtain⟨O,HO⟩:∃z,Hid (w2.heap.size=z):=⟨_,rfl⟩;have bC:w2.heap.size=O:=HO.out;rw[HO.out] at O3 aV bJ ⊢;have B4:Hid (Below w.heap.size w w4):=Bel.after B3.out b4;have aR:Hid (FnO (w.heap.size+1+1) own w4 (.slice sa n scap) F.blocks):=by
  have h9:=aQ.out.keep b4;rw[be] at h9;exact h9
 have bn:Hid (kI own w4 (w.heap.size+1+1) (.slice sa n scap) F.blocks.length):=by
  have h9:=a4.out.keep b4;rw[be] at h9;exact h9
 have R4:Hid (w4.heap[w.heap.size+1]?=some (.cells #[.slice none 0 0,vi 0] 26 (0,0))):=(b4.block _ (by omega)).trans R3.out;have O4:Hid (w4.heap[O]?=some (.cells #[.slice sa n scap,vi vals] 26 (0,0))):=(b4.block _ (by omega)).trans O3.out;have aE:Hid (∀g,(own g).1≤3→g<O):=fun g hg=>by have:=V.out.high g hg;omega
 have g0:=Bel.keeps b4 f0;have g1:=Bel.keeps b4 f1;have bW:=b4.size;have bF:w.heap.size+1+1≤O:=by omega
 clear b4 f0 f1 aQ a4 R3 O3 V aZ aP U XA RA bC;by_cases aC:ck=0
 ·subst aC;have ag:Hid (jm F):=aat HCK.out;go_wp2_with fail
  refine(KQ _ F _ (HF.out.later B4.out) ag.out).mono ?_;rintro e w5 ⟨ev,rfl,hoe,b5⟩;obtain⟨es,HES⟩:∃z,Hid (critUp F F.blocks.length=z):=⟨_,rfl⟩;rw[HES.out] at hoe;have aD:Hid (JV F=es):=(abd ag.out).trans HES.out;have OE:Hid (jJ w5 w4.heap.size ev es):=hoe;obtain⟨m,HM⟩:∃z,Hid (es.length=z):=⟨_,rfl⟩;obtain⟨ea,ecap,rfl⟩:∃a c,ev=.slice a m c:=by
   obtain⟨a,c,e,_⟩:=hoe.row;exact⟨a,c,by rw[e,HM.out]⟩
  have a8:m≤200:=by
   have h1:=Xy F F.blocks.length;have h2:F.blocks.length≤16:=ag.out.2.1;rw[HES.out] at h1;have:=HM.out;omega
  have bG:n≤16:=by rw[←HN.out];exact ag.out.2.1
  have B5:Hid (Below w.heap.size w w5):=Bel.after B4.out b5;have aS:Hid (FnO (w.heap.size+1+1) own w5 (.slice sa n scap) F.blocks):=aR.out.keep b5;have bo:Hid (kI own w5 (w.heap.size+1+1) (.slice sa n scap) F.blocks.length):=bn.out.keep b5;have R5:Hid (w5.heap[w.heap.size+1]?=some (.cells #[.slice none 0 0,vi 0] 26 (0,0))):=(b5.block _ (by omega)).trans R4.out;have O5:Hid (w5.heap[O]?=some (.cells #[.slice sa n scap,vi vals] 26 (0,0))):=(b5.block _ (by omega)).trans O4.out;replace g0:=Bel.keeps b5 g0;replace g1:=Bel.keeps b5 g1;have bX:=b5.size;clear hoe b5;by_cases bE:(n:Int)+(m:Int) > 16
  ·have G:Hid (JW F=F∧yq F=false):=adB (fun h=>by have h2:=h.2;rw[aD.out] at h2;have:=HM.out;have:=HN.out;omega);obtain⟨r0,r1,hF6,hB6⟩:=zz (w:=w) (vals:=vals) (by omega) R5.out aS.out B5.out;have m0:w5.cell? (Z O 0)=some (.slice sa n scap):=(kH O5.out 0).trans rfl;have m1:w5.cell? (Z O 1)=some (vi vals):=(kH O5.out 1).trans rfl;have y0:w5.cell? (Z (w.heap.size+1) 0)=some (.slice none 0 0):=(kH R5.out 0).trans rfl;have y1:w5.cell? (Z (w.heap.size+1) 1)=some (vi 0):=(kH R5.out 1).trans rfl;have z0:=KO R5.out 0;have z1:=KO R5.out 1;have ae:Hid (FnO w.heap.size own _ (.slice sa n scap) F.blocks):=hF6;have X:Hid (Below w.heap.size w _):=hB6;clear hF6 hB6;go_wp2_with fail
   refine bodyPost_ret (v:=.tuple #[.agg #[.slice sa n scap,vi vals],.bool false]) (by simp[results,Tryz.results83,go_sem,r0,r1]) rfl ?_;exact⟨_,own,by rw[JQ,HV.out,G.out.2],by rw[G.out.1];exact ae.out,X.out⟩
  ·have ah:Hid (JW F = { F with blocks:=ko F.blocks es m }∧yq F=true):=by
    have h9:=agj (F:=F) ⟨HCK.out,by rw[aD.out];have:=HM.out;have:=HN.out;omega⟩;rw[aD.out,HM.out] at h9;exact h9
   go_wp2_with fail
   go_loopw [6] (fun i wr=>ahW (w.heap.size+1+1) O w5 vals F es m i wr) (fun i _=>m-(intOf i).toNat)
   case atStart=>
    refine⟨0,_,own,Nat.zero_le _,rfl,O5.out,?_,?_,Below.refl _ _,by omega,fun g hg hO=>⟨rfl,?_⟩,aV.out⟩
    ·simpa [ko,oldUp] using aS.out
    ·simpa [ko,oldUp] using bo.out
    ·exact Nat.lt_of_not_le (fun h=>by have:=aE.out g h;omega)
   case round=>
    obtain⟨wq,hwq⟩:∃x,x=wr:=⟨_,rfl⟩;subst hwq;obtain⟨k,bv,own',hk,rfl,hst⟩:=hrel;have ST:Hid (Ji (w.heap.size+1+1) O w5 wq vals own' bv (ko F.blocks es k)):=hst;clear hst;by_cases bT:(k:Int)<(m:Int)
    ·have bR:k<m:=by omega
     have a7:k<es.length:=by have:=HM.out;omega
     obtain⟨e,HE⟩:∃e,Hid (es[k]?=some e):=⟨es[k],List.getElem?_eq_getElem a7⟩;obtain⟨f,t,hef,hev,hfn,htn⟩:=crit_in ag.out (e:=e) (by rw[HES.out];exact List.mem_of_getElem? HE.out);have ac:Hid (e.fr=(f:Int)):=hef;have ad:Hid (e.v=(t:Int)):=hev;have ax:Hid (f<F.blocks.length):=hfn;have aG:Hid (t<F.blocks.length):=htn;obtain⟨nk,HNK⟩:∃z,Hid (F.blocks.length+k=z):=⟨_,rfl⟩;have bV:nk≤40:=by have:=HNK.out;have:=HN.out;omega
     have K:Hid ((ko F.blocks es k).length=nk):=by
      have h9:(ko F.blocks es k).length=F.blocks.length+k:=Zk (by omega);rw[HNK.out] at h9;exact h9
     obtain⟨qa,qcap,rfl⟩:=ST.out.shape K.out;have mO:wq.cell? (Z O 0)=some (.slice qa nk qcap):=(kH ST.out.box 0).trans rfl;have bD:O<wq.heap.size:=(aI ST.out.box).1;obtain⟨eb,hea,he0,he1⟩:∃eb,ea=some (Z eb 0)∧wq.cell? (Z eb (k*2))=some (vi f)∧wq.cell? (Z eb (k*2+1))=some (vi t):=by
      obtain⟨a9,c9,e9,hr9⟩:=OE.out.row;obtain⟨g9,ha9,hl9,hg9,hd9,_⟩:=hr9 (by omega);have h8:=hd9 k e HE.out;have bd:=(ST.out.off g9 hg9 (by omega)).1;simp at e9;refine⟨g9,e9.1.trans ha9,?_,?_⟩
      ·rw[jf bd,h8.1,ac.out]
      ·rw[jf bd,h8.2,ad.out]
     subst hea;clear a7 hef hev hfn htn;obtain⟨wE,hwE⟩:∃W,wq.alloc (.cells #[vi (f:Int),vi (t:Int)] 149)=W:=⟨_,rfl⟩;have BE:Hid (Below wq.heap.size wq wE):=by rw[←hwE];exact Bel.alloc _ _
     have bK:wE.heap.size=wq.heap.size+1:=by rw[←hwE];simp
     have XE:Hid (wE.heap[wq.heap.size]?=some (.cells #[vi (f:Int),vi (t:Int)] 149 (0,0))):=by rw[←hwE];exact World.alloc_heap_new wq _
     have p0:wE.cell? (Z wq.heap.size 0)=some (vi f):=(kH XE.out 0).trans rfl;have p1:wE.cell? (Z wq.heap.size 1)=some (vi t):=(kH XE.out 1).trans rfl;have pO:=Bel.keeps BE.out mO;obtain⟨wL,hwL⟩:∃W,wE.alloc (.cells #[.slice none 0 0,.slice none 0 0,vi 1,vi 0,vi (t:Int),vi 0] 43)=W:=⟨_,rfl⟩;have BL:Hid (Below wE.heap.size wE wL):=by rw[←hwL];exact Bel.alloc _ _
     have bY:wL.heap.size=wq.heap.size+2:=by rw[←hwL];simp;omega
     have aA:Hid (Ji (w.heap.size+1+1) O w5 wL vals own' (.slice qa nk qcap) (ko F.blocks es k)):=(ST.out.keep BE.out).keep BL.out;obtain⟨xs,hxs⟩:=aA.out.room.owns;have bm:Hid (wL.ownsRow (w.heap.size+1+1) 43 6 (.slice qa nk qcap) (ko F.blocks es k).length xs):=hxs;have aJ:Hid (wL.ownsRow (w.heap.size+1+1) 43 6 (.slice qa nk qcap) nk xs):=by
      have h9:=hxs;rw[K.out] at h9;exact h9
     have I:∀(j:Nat) (u:Value),([.slice none 0 0,.slice none 0 0,vi 1,vi 0,vi (t:Int),vi 0]:List Value)[j]?=some u→wL.cell? (((Z wE.heap.size 0):Addr).add j)=some u:=by
      rw[←hwL];exact Q4 _ _ _
     rw[bK] at I;have af:Hid (∀(j:Nat) (u:Value),([.slice none 0 0,.slice none 0 0,vi 1,vi 0,vi (t:Int),vi 0]:List Value)[j]?=some u→wL.cell? (((Z (wq.heap.size+1) 0):Addr).add j)=some u):=I;have q0:=Bel.keeps BL.out p0;have q1:=Bel.keeps BL.out p1;have qO:=Bel.keeps BL.out pO;have bU:2000000≤maxLen:=by decide
     have au:some O≠(Value.slice qa nk qcap).ownBlock:=fun e9=>by
      have h9:=aA.out.room.blk e9.symm;have:=aA.out.out;rw[h9] at this;simp at this
     have aO:some wq.heap.size≠(Value.slice qa nk qcap).ownBlock:=fun e9=>by
      have h9:=ST.out.room.blk e9.symm;have:=ST.out.fresh (Nat.le_refl wq.heap.size);rw[h9] at this;simp at this
     clear hxs;obtain⟨i0,hi,hz0,hz1,hz2⟩:=info_parts Y7
     have aY:Hid (∀v' wa,wa.ownsRow (w.heap.size+1+1) 43 6 v' (nk+1) (xs ++ [.slice none 0 0,.slice none 0 0,vi 1,vi 0,vi (t:Int),vi 0])→wL.grownBy wa (Value.slice qa nk qcap).ownBlock→(v'.ownBlock=(Value.slice qa nk qcap).ownBlock∨v'.ownBlock=some wL.heap.size) →
       ∃rb rcap r,v'=sq rb 0 (nk+1) rcap∧wa.cell? (Z O 0)=some (.slice qa nk qcap)∧wa.frozen? (Z O 0)=false∧Ji (w.heap.size+1+1) O w5 (wa.setCell (Z O 0) v') vals r v' (ko F.blocks es k ++ [agl e])∧(wa.setCell (Z O 0) v').heap[wq.heap.size]?=some (.cells #[vi (f:Int),vi (t:Int)] 149 (0,0))∧wq.heap.size+2≤(wa.setCell (Z O 0) v').heap.size∧3<(r wq.heap.size).1):=fun v' wa h1 h2 h3=>by
      obtain⟨rb,rcap,hv'⟩:=ownsRow_succ h1;have bH:agl e=⟨[],[],⟨1,0,(t:Int),0⟩⟩:=by unfold agl;rw[ad.out]
      obtain⟨r,hfr2,bc⟩:=aA.out.snoc bF ⟨1,0,(t:Int),0⟩ bm.out (by rw[K.out];exact h1) h2 h3 (by rw[K.out];omega);have bA:wL.heap[wq.heap.size]?=some (.cells #[vi (f:Int),vi (t:Int)] 149 (0,0)):=(BL.out.block _ (by omega)).trans XE.out;have bB:=(h2.block wq.heap.size (by omega) aO).trans bA;refine⟨rb,rcap,r,hv',h2.cell qO au,?_,by rw[bH];exact bc,(Below.heap_setCell _ _ _ _ (by show wq.heap.size≠O;omega)).trans bB,by have:=h2.size;simp;omega,?_⟩
      ·have:=(h2.block O (by omega) au).trans ((BL.out.block O (by omega)).trans ((BE.out.block O bD).trans ST.out.box));exact KO this 0
      ·exact hfr2 _ (ST.out.fresh (Nat.le_refl _)) (by omega)
     clear I;obtain⟨x,HX0⟩:∃x,Hid ((ko F.blocks es k)[f]?=some x):=⟨_,List.getElem?_eq_getElem (by have:=K.out;have:=ax.out;have:=HNK.out;omega)⟩;have HX:Hid ((ko F.blocks es k ++ [agl e])[f]?=some x):=(List.getElem?_append_left (by have:=K.out;have:=ax.out;have:=HNK.out;omega)).trans HX0.out;obtain⟨xp,xl,tk,ta,tt,te⟩:=x;obtain⟨B1,HB1⟩:∃z,Hid (ko F.blocks es k ++ [agl e]=z):=⟨_,rfl⟩;have bh:Hid (B1.length=nk+1):=by
      have h9:(ko F.blocks es k ++ [agl e]).length=nk+1:=by rw[List.length_append,K.out];rfl
      rw[HB1.out] at h9;exact h9
     rw[HB1.out] at HX aY;have bO:(f:Int)<(nk:Int)+1:=by have:=ax.out;have:=HNK.out;omega
     have bZ:(t:Int)<(nk:Int)+1:=by have:=aG.out;have:=HNK.out;omega
     go_upto_if 62 with (first | (at_builtin;refine wpList_append_own_at _ rfl _ _ 24 rfl (w.heap.size+1+1) 43 i0 (.agg #[.slice none 0 0,.slice none 0 0,vi 0,vi 0,vi 0,vi 0]) 6 80 Tryz.underlying24 hi hz0 hz1 hz2 rfl (by decide) (.slice qa nk qcap) nk xs rfl aJ.out (Z (wq.heap.size+1) 0) 1 1 [.slice none 0 0,.slice none 0 0,vi 1,vi 0,vi (t:Int),vi 0] rfl rfl af.out (by simp[Value.oneCell']) (by omega) (by omega) (by omega) ?_;intro v' wa aw aq _ bI;obtain⟨rb,rcap,r,hvv,k0,k1,k2,k3,k4,k5⟩:=aY.out v' wa aw aq bI;subst hvv;obtain⟨wS,hwS⟩:∃W,wa.setCell (Z O 0) (sq rb 0 (nk+1) rcap)=W:=⟨_,rfl⟩;rw[hwS] at k2 k3 k4;obtain⟨c2,c3,c4,c5,_⟩:=k2.ends HX.out;have n0:wS.cell? (Z O 0)=some (sq rb 0 (nk+1) rcap):=(kH k2.box 0).trans rfl;have n1:wS.cell? (Z wq.heap.size 0)=some (vi f):=(kH k3 0).trans rfl;have n2:wS.cell? (Z wq.heap.size 1)=some (vi t):=(kH k3 1).trans rfl;obtain⟨wT,hwT⟩:∃W,wS.alloc (.cells #[vi tk,vi ta,vi tt,vi te] 41)=W:=⟨_,rfl⟩;have XT:wT.heap[wS.heap.size]?=some (.cells #[vi tk,vi ta,vi tt,vi te] 41 (0,0)):=(by rw[←hwT];exact World.alloc_heap_new wS _);have BT:Hid (Below wS.heap.size wS wT):=(by rw[←hwT];exact Bel.alloc _ _);have ak:w5.heap.size≤wS.heap.size:=k2.bel.size;have ao:3<(r wS.heap.size).1:=k2.fresh (Nat.le_refl _);have am:wS.heap.size≠O:=(by omega);have aj:wq.heap.size≠wS.heap.size:=(by omega);have o0:wT.cell? (Z wS.heap.size 0)=some (vi tk):=(kH XT 0).trans rfl;have o1:wT.cell? (Z wS.heap.size 1)=some (vi ta):=(kH XT 1).trans rfl;have o2:wT.cell? (Z wS.heap.size 2)=some (vi tt):=(kH XT 2).trans rfl;have o3:wT.cell? (Z wS.heap.size 3)=some (vi te):=(kH XT 3).trans rfl;have u2:=KO XT 2;have u3:=KO XT 3;have l0:=Bel.keeps BT.out n0;have l1:=Bel.keeps BT.out n1;have l2:=Bel.keeps BT.out n2;have M:=(BT.out.block wq.heap.size (by omega)).trans k3))
     try rw[hwT]
     have aL:=k2.keep BT.out;obtain⟨T1,HT1⟩:∃q,Hid ((if tt=(t:Int) then(nk:Int) else tt)=q):=⟨_,rfl⟩;obtain⟨E1,HE1⟩:∃q,Hid ((if te=(t:Int) then(nk:Int) else te)=q):=⟨_,rfl⟩;have aU:Hid (Xz e (nk:Int) f ⟨tk,ta,tt,te⟩=⟨tk,ta,T1,E1⟩):=by
      show Xz e (nk:Int) f ⟨tk,ta,tt,te⟩=⟨tk,ta,T1,E1⟩;have h9:=leadT_at (at0:=(nk:Int)) ac.out ⟨tk,ta,tt,te⟩;rw[h9,ad.out,←HT1.out,←HE1.out]
     obtain⟨B2,HB2EQ'⟩:∃z,Hid (B1.set f ⟨xp,xl,tk,ta,T1,E1⟩=z):=⟨_,rfl⟩;have a5:Hid (wT.heap[wS.heap.size]?=some (.cells #[vi tk,vi ta,vi tt,vi te] 41 (0,0))):=XT
     go_cut [] (fun wx=>Ji (w.heap.size+1+1) O w5 wx vals r (sq rb 0 (nk+1) rcap) B1∧wx.heap[wS.heap.size]?=some (.cells #[vi tk,vi ta,vi T1,vi te] 41 (0,0))∧wx.heap[wq.heap.size]?=some (.cells #[vi (f:Int),vi (t:Int)] 149 (0,0)))
     case first=>
      by_cases h1:tt=(t:Int)
      ·have f1:(tt == (t:Int))=true:=by simp[h1]
       have hT:=HT1.out;rw[if_pos h1] at hT;subst hT;clear h1;go_wp2_with fail
       go_meet
       exact⟨aL.aside ak ao am 2 _,by simp[World.setCell,Array.getElem?_modify,a5.out],(Below.heap_setCell _ _ _ _ aj).trans M⟩
      ·have f1:(tt == (t:Int))=false:=by simp[h1]
       have hT:=HT1.out;rw[if_neg h1] at hT;subst hT;clear h1;go_wp2_with fail
       go_meet
       exact⟨aL,a5.out,M⟩
     case rest=>
      obtain⟨wV,hwV⟩:∃x,x=wc:=⟨_,rfl⟩;subst hwV;obtain⟨aM,XTV,XEV⟩:=hcut;try clear o0 o1 o2 o3 u2 u3 l0 l1 l2 n0 n1 n2 M aL
      have o0:wV.cell? (Z wS.heap.size 0)=some (vi tk):=(kH XTV 0).trans rfl;have o1:wV.cell? (Z wS.heap.size 1)=some (vi ta):=(kH XTV 1).trans rfl;have o2:wV.cell? (Z wS.heap.size 2)=some (vi T1):=(kH XTV 2).trans rfl;have o3:wV.cell? (Z wS.heap.size 3)=some (vi te):=(kH XTV 3).trans rfl;have u3:=KO XTV 3;have l2:wV.cell? (Z wq.heap.size 1)=some (vi t):=(kH XEV 1).trans rfl
      go_upto_if 69 with fail
      go_cut [] (fun wx=>Ji (w.heap.size+1+1) O w5 wx vals r (sq rb 0 (nk+1) rcap) B1∧wx.heap[wS.heap.size]?=some (.cells #[vi tk,vi ta,vi T1,vi E1] 41 (0,0))∧wx.heap[wq.heap.size]?=some (.cells #[vi (f:Int),vi (t:Int)] 149 (0,0)))
      case first=>
       by_cases h1:te=(t:Int)
       ·have f1:(te == (t:Int))=true:=by simp[h1]
        have hT:=HE1.out;rw[if_pos h1] at hT;subst hT;clear h1;go_wp2_with fail
        go_meet
        exact⟨aM.aside ak ao am 3 _,by simp[World.setCell,Array.getElem?_modify,XTV],(Below.heap_setCell _ _ _ _ aj).trans XEV⟩
       ·have f1:(te == (t:Int))=false:=by simp[h1]
        have hT:=HE1.out;rw[if_neg h1] at hT;subst hT;clear h1;go_wp2_with fail
        go_meet
        exact⟨aM,XTV,XEV⟩
      case rest=>
       obtain⟨wW,hwW⟩:∃x,x=wc:=⟨_,rfl⟩;subst hwW;obtain⟨aN,XTW,XEW⟩:=hcut;clear o0 o1 o2 o3 u3 l2 aM XTV XEV;have o0:wW.cell? (Z wS.heap.size 0)=some (vi tk):=(kH XTW 0).trans rfl;have o1:wW.cell? (Z wS.heap.size 1)=some (vi ta):=(kH XTW 1).trans rfl;have o2:wW.cell? (Z wS.heap.size 2)=some (vi T1):=(kH XTW 2).trans rfl;have o3:wW.cell? (Z wS.heap.size 3)=some (vi E1):=(kH XTW 3).trans rfl;obtain⟨d2,d3,d4,d5,HFZ⟩:=aN.ends HX.out;have m0:wW.cell? (Z O 0)=some (sq rb 0 (nk+1) rcap):=(kH aN.box 0).trans rfl;have m1:wW.cell? (Z wq.heap.size 0)=some (vi f):=(kH XEW 0).trans rfl;have m2:wW.cell? (Z wq.heap.size 1)=some (vi t):=(kH XEW 1).trans rfl;have bu:=HFZ.out (f*6+2);have bw:=HFZ.out (f*6+2+1);have bx:=HFZ.out (f*6+2+2);have bz:=HFZ.out (f*6+2+3);have B:=aN.turnTerm HX.out ⟨tk,ta,T1,E1⟩;rw[Nat.zero_add] at B;obtain⟨wU,hwU⟩:∃W,yK wW rb (f*6+2) ⟨tk,ta,T1,E1⟩=W:=⟨_,rfl⟩;rw[hwU,HB2EQ'.out] at B;have J:wU.heap[wq.heap.size]?=some (.cells #[vi (f:Int),vi (t:Int)] 149 (0,0)):=by
        rw[←hwU];refine(adC (fun e9=>?_)).trans XEW;rw[e9] at k5;have h9:=k2.room.blk (g:=rb) rfl;rw[h9] at k5;simp at k5
       unfold yK at hwU;dsimp only at hwU;have s0:wU.cell? (Z O 0)=some (sq rb 0 (nk+1) rcap):=(kH B.box 0).trans rfl;have s1:wU.cell? (Z wq.heap.size 0)=some (vi f):=(kH J 0).trans rfl;have s2:wU.cell? (Z wq.heap.size 1)=some (vi t):=(kH J 1).trans rfl;obtain⟨y,HY⟩:∃y,Hid (B2[t]?=some y):=⟨_,List.getElem?_eq_getElem (by rw[←HB2EQ'.out,List.length_set,bh.out];have:=aG.out;have:=HNK.out;omega)⟩;obtain⟨pa,pn,pcap,s3,HPN,hpn9⟩:=B.phisC HY.out;have bp:Hid (Ji (w.heap.size+1+1) O w5 wU vals r (sq rb 0 (nk+1) rcap) B2):=B;have bq:Hid (wU.heap[wq.heap.size]?=some (.cells #[vi (f:Int),vi (t:Int)] 149 (0,0))):=J;have bl:Hid (3<(r wq.heap.size).1):=k5;clear k2 k3 k5 B J HFZ;go_wp2_with fail
       try rw[hwU]
       try clear hwU o0 o1 o2 o3 m0 m1 m2 d2 d3 d4 d5 bu bw bx bz s0 s1 s2
       go_loopw [11] (fun i wr=>∃g:Nat,g≤pn∧i=vi g∧Ji (w.heap.size+1+1) O w5 wr vals r (sq rb 0 (nk+1) rcap) (B2.set t { y with phis:=xL e (nk:Int) t y.phis g 0 })∧wr.heap[rb]?=wU.heap[rb]?∧wr.heap[wq.heap.size]?=some (.cells #[vi (f:Int),vi (t:Int)] 149 (0,0))) (fun i _=>pn-(intOf i).toNat)
       case atStart=>exact⟨0,Nat.zero_le _,rfl,bp.out.congr (by rw[acL];exact(acr HY.out).symm),rfl,bq.out⟩
       case round=>
        obtain⟨wg,hwg⟩:∃x,x=wr:=⟨_,rfl⟩;subst hwg;obtain⟨g,hgp,rfl,hsg,hrg,hxg⟩:=hrel;have aK:Hid (Ji (w.heap.size+1+1) O w5 wg vals r (sq rb 0 (nk+1) rcap) (B2.set t { y with phis:=xL e (nk:Int) t y.phis g 0 })):=hsg;have aX:Hid (wg.heap[rb]?=wU.heap[rb]?):=hrg;have bk:Hid (wg.heap[wq.heap.size]?=some (.cells #[vi (f:Int),vi (t:Int)] 149 (0,0))):=hxg;clear hsg hrg hxg;have bf:t<B2.length:=(List.getElem?_eq_some_iff.1 HY.out).1;by_cases bP:(g:Int)<(pn:Int)
        ·obtain⟨p,HP⟩:∃p,Hid (y.phis[g]?=some p):=⟨_,List.getElem?_eq_getElem (by have:=HPN.out;omega)⟩;obtain⟨an,HAN⟩:∃z,Hid (p.arms.length=z):=⟨_,rfl⟩;have ap:wg.cell? (Z rb (0+t*6))=some (.slice pa pn pcap):=by rw[Nat.zero_add,jf aX.out];exact s3
         obtain⟨pb,poff,aa,acap,hpa,hpb,hpc,hpx,han⟩:=aK.out.fn.armsC (List.getElem?_set_self bf) (QF (j:=0) HP.out) ap;have a6:((p.arms.take 0).map (zY e (nk:Int) t) ++ p.arms.drop 0).length=an:=by rw[←HAN.out];simp
         rw[a6] at hpc han;subst hpa;have bi:Hid (r pb=(1,t,0)):=hpb;clear ap hpx a6 hpb;go_wp2_with fail
         go_loopw [12] (fun i wr=>∃j:Nat,j≤an∧i=vi j∧Ji (w.heap.size+1+1) O w5 wr vals r (sq rb 0 (nk+1) rcap) (B2.set t { y with phis:=xL e (nk:Int) t y.phis g j })∧wr.heap[rb]?=wU.heap[rb]?∧wr.heap[pb]?=wg.heap[pb]?∧wr.heap[wq.heap.size]?=some (.cells #[vi (f:Int),vi (t:Int)] 149 (0,0))) (fun i _=>an-(intOf i).toNat)
         case atStart=>exact⟨0,Nat.zero_le _,rfl,aK.out,aX.out,rfl,bk.out⟩
         case round=>
          obtain⟨wj,hwj⟩:∃x,x=wr:=⟨_,rfl⟩;subst hwj;obtain⟨j,hj,rfl,hsj,hrj,hpj,hxj⟩:=hrel;have L:Hid (Ji (w.heap.size+1+1) O w5 wj vals r (sq rb 0 (nk+1) rcap) (B2.set t { y with phis:=xL e (nk:Int) t y.phis g j })):=hsj;have az:Hid (wj.heap[rb]?=wU.heap[rb]?):=hrj;have aW:Hid (wj.heap[pb]?=wg.heap[pb]?):=hpj;have aH:Hid (wj.heap[wq.heap.size]?=some (.cells #[vi (f:Int),vi (t:Int)] 149 (0,0))):=hxj;have b1:wj.cell? (Z pb (poff+g*2+1))=some (.slice aa an acap):=(jf hpj _).trans hpc;have b2:wj.cell? (Z wq.heap.size 0)=some (vi f):=(kH hxj 0).trans rfl;clear hsj hrj hpj hxj;by_cases bQ:(j:Int)<(an:Int)
          ·obtain⟨a,HA⟩:∃a,Hid (p.arms[j]?=some a):=⟨_,List.getElem?_eq_getElem (by have:=HAN.out;omega)⟩;have BD:Below wj.heap.size wj wj.drew:=(Below.refl _ _).drew;obtain⟨ab,aoff,⟨hab,hlk⟩,v1,v2,hfn⟩:=(L.out.fn.keep BD).putArm (List.getElem?_set_self bf) (QF (j:=j) HP.out) (acM (e:=e) (at0:=(nk:Int)) (b:=t) HA.out) (nk:Int);obtain⟨bL,acap9,hlk⟩:=hlk rb 0 (nk+1) rcap pb poff pn pcap rfl (by rw[Nat.zero_add,jf ((BD.block rb (by have:=L.out.fn.high rb (by have:=L.out.room.blk (g:=rb) rfl;rw[this];simp);omega)).trans az.out)];exact s3);have ar:=hlk.symm.trans (Bel.keeps BD b1);simp at ar;obtain⟨br,e92,e93⟩:=ar;subst br;clear e92 e93;have v0:wj.cell? (Z ab (aoff+j*2))=some (vi a.fr):=v1;have bg:Hid (FnO (w.heap.size+1+1) r (wj.drew.setCell (Z ab (aoff+j*2)) (vi (nk:Int))) (sq rb 0 (nk+1) rcap) _):=hfn;have aT:Hid (r ab=(3,t,g)):=hab;obtain⟨H,av⟩:=a;dsimp only at v0 v1;clear hlk hab hfn;by_cases h4:H=(f:Int)
           ·have f4:(H == (f:Int))=true:=by simp[h4]
            have aF:Hid (zY e (nk:Int) t ⟨H,av⟩=⟨(nk:Int),av⟩):=by
             have h9:zY e (nk:Int) t ⟨H,av⟩=⟨(nk:Int),av⟩:=by unfold zY;rw[if_pos ⟨h4.trans ac.out.symm,ad.out.symm⟩]
             exact h9
            have aB:Hid (Ji (w.heap.size+1+1) O w5 (wj.drew.setCell (Z ab (aoff+j*2)) (vi (nk:Int))) vals r (sq rb 0 (nk+1) rcap) (B2.set t { y with phis:=xL e (nk:Int) t y.phis g (j+1) })):=by
             refine((L.out.keep BD).turn (b:=ab) (by rw[aT.out];exact Nat.le_refl 3) rfl bg.out (by simp)).congr ?_;rw[List.set_set];have h9:=Zl (e:=e) (at0:=(nk:Int)) (b:=t) HP.out HA.out;rw[aF.out] at h9;rw[←h9]
            have ai:∀q,r q≠(3,t,g)→(wj.drew.setCell (Z ab (aoff+j*2)) (vi (nk:Int))).heap[q]?=wj.heap[q]?:=fun q hq=>Below.heap_setCell _ _ _ q (fun e9=>hq (by rw[e9];exact aT.out))
            have ay:Hid (∀q,r q≠(3,t,g)→(wj.drew.setCell (Z ab (aoff+j*2)) (vi (nk:Int))).heap[q]?=wj.heap[q]?):=ai;clear h4 ai;go_wp2_with fail
            refine KH (wp_region_held_drew (S:=fun w'=>w'.cell? (Z pb (poff+g*2+1))=some (sq ab aoff an acap)∧w'.cell? (Z ab (aoff+j*2))=some (vi H)∧w'.cell? (Z wq.heap.size 0)=some (vi f)) (by kernel_rfl) ⟨b1,v0,b2⟩ (fun hHeld=>?_));refine tkA 0 ⟨some 102,.move (.tmp 10),38,"l08_edge.go:50",#[],none⟩ ?_ (fun w h=>?_) ?_;rotate_left
            ·(try dsimp only at h);go_simp;(try with_reducible rfl)
            try simp only[Act.put,sT,sZ,sS]
            refine tkA 1 ⟨some 103,.move (.tmp 11),3,"l08_edge.go:50",#[],none⟩ ?_ (fun w h=>?_) ?_;rotate_left
            ·(try dsimp only at h);go_simp;(try with_reducible rfl)
            try simp only[Act.put,sT,sZ,sS]
            refine tkA 2 ⟨some 104,.indexAddr 38 (.tmp 102) (.tmp 103),0,"l08_edge.go:50",#[⟨0,.data⟩,⟨1,.data⟩],none⟩ ?_ (fun w h=>?_) ?_;rotate_left
            ·(try dsimp only at h);go_simp;(try with_reducible rfl)
            try simp only[Act.put,sT,sZ,sS]
            refine tkA 3 ⟨some 105,.fieldAddr 107 (.tmp 104) 1,0,"l08_edge.go:50",#[⟨2,.data⟩],none⟩ ?_ (fun w h=>?_) ?_;rotate_left
            ·(try dsimp only at h);go_simp;(try with_reducible rfl)
            try simp only[Act.put,sT,sZ,sS]
            refine tkA 4 ⟨some 106,.load 105 (.tmp 105),105,"l08_edge.go:50",#[⟨3,.data⟩],none⟩ ?_ (fun w h=>?_) ?_;rotate_left
            ·(try dsimp only at h);go_simp;(try with_reducible rfl)
            try simp only[Act.put,sT,sZ,sS]
            refine tkA 5 ⟨some 107,.move (.tmp 12),3,"l08_edge.go:50",#[],none⟩ ?_ (fun w h=>?_) ?_;rotate_left
            ·(try dsimp only at h);go_simp;(try with_reducible rfl)
            try simp only[Act.put,sT,sZ,sS]
            refine tkA 6 ⟨some 108,.indexAddr 105 (.tmp 106) (.tmp 107),0,"l08_edge.go:50",#[⟨4,.data⟩,⟨5,.data⟩],none⟩ ?_ (fun w h=>?_) ?_;rotate_left
            ·(try dsimp only at h);go_simp;(try with_reducible rfl)
            try simp only[Act.put,sT,sZ,sS]
            refine tkA 7 ⟨some 109,.fieldAddr 143 (.tmp 108) 0,0,"l08_edge.go:50",#[⟨6,.data⟩],none⟩ ?_ (fun w h=>?_) ?_;rotate_left
            ·(try dsimp only at h);go_simp;(try with_reducible rfl)
            try simp only[Act.put,sT,sZ,sS]
            refine tkA 8 ⟨some 110,.load 3 (.tmp 109),3,"l08_edge.go:50",#[⟨7,.data⟩],none⟩ ?_ (fun w h=>?_) ?_;rotate_left
            ·(try dsimp only at h);go_simp;(try with_reducible rfl)
            try simp only[Act.put,sT,sZ,sS]
            refine tkA 9 ⟨some 111,.fieldAddr 149 (.tmp 7) 0,0,"l08_edge.go:50",#[],none⟩ ?_ (fun w h=>?_) ?_;rotate_left
            ·(try dsimp only at h);go_simp;(try with_reducible rfl)
            try simp only[Act.put,sT,sZ,sS]
            refine tkA 10 ⟨some 112,.load 3 (.tmp 111),3,"l08_edge.go:50",#[⟨9,.data⟩],none⟩ ?_ (fun w h=>?_) ?_;rotate_left
            ·(try dsimp only at h);go_simp;(try with_reducible rfl)
            try simp only[Act.put,sT,sZ,sS]
            refine tkA 11 ⟨some 113,.binOp .eql 3 (.tmp 110) (.tmp 112) 3,4,"l08_edge.go:50",#[⟨8,.data⟩,⟨10,.data⟩],none⟩ ?_ (fun w h=>?_) ?_;rotate_left
            ·(try dsimp only at h);go_simp;(try with_reducible rfl)
            try simp only[Act.put,sT,sZ,sS]
            refine wpAnyH_done (by kernel_rfl) ?_ _;simp only[noThrow,Exit.then]
            go_at_K
            have bM:wj.drew.cell? (Z pb (poff+g*2+1))=some (sq ab aoff an acap):=b1;obtain⟨wN,hwN⟩:∃W,wj.drew.setCell (Z ab (aoff+j*2)) (vi (nk:Int))=W:=⟨_,rfl⟩;rw[hwN] at aB ay;clear hHeld;go_wp2_with fail
            go_roundw
            case rel=>exact⟨j+1,by omega,by simp,aB.out,(ay.out rb (by rw[L.out.room.blk (g:=rb) rfl];simp)).trans az.out,(ay.out pb (by rw[bi.out];simp)).trans aW.out,(ay.out wq.heap.size (fun e9=>by have h9:=bl.out;rw[e9] at h9;simp at h9)).trans aH.out⟩
            case measure=>simp[intOf];omega
           ·have f4:(H == (f:Int))=false:=by simp[h4]
            have aF:Hid (zY e (nk:Int) t ⟨H,av⟩=⟨H,av⟩):=by
             have h9:zY e (nk:Int) t ⟨H,av⟩=⟨H,av⟩:=by unfold zY;rw[if_neg (fun h=>h4 (h.1.trans ac.out))]
             exact h9
            have aB:Hid (Ji (w.heap.size+1+1) O w5 wj.drew vals r (sq rb 0 (nk+1) rcap) (B2.set t { y with phis:=xL e (nk:Int) t y.phis g (j+1) })):=by
             refine(L.out.keep BD).congr ?_;have h9:=Zl (e:=e) (at0:=(nk:Int)) (b:=t) HP.out HA.out;rw[aF.out,acr (acM HA.out),acr (QF HP.out)] at h9;rw[h9]
            clear h4;go_wp2_with fail
            refine KH (wp_region_held_drew (S:=fun w'=>w'.cell? (Z pb (poff+g*2+1))=some (sq ab aoff an acap)∧w'.cell? (Z ab (aoff+j*2))=some (vi H)∧w'.cell? (Z wq.heap.size 0)=some (vi f)) (by kernel_rfl) ⟨b1,v0,b2⟩ (fun hHeld=>?_));refine tkA 0 ⟨some 102,.move (.tmp 10),38,"l08_edge.go:50",#[],none⟩ ?_ (fun w h=>?_) ?_;rotate_left
            ·(try dsimp only at h);go_simp;(try with_reducible rfl)
            try simp only[Act.put,sT,sZ,sS]
            refine tkA 1 ⟨some 103,.move (.tmp 11),3,"l08_edge.go:50",#[],none⟩ ?_ (fun w h=>?_) ?_;rotate_left
            ·(try dsimp only at h);go_simp;(try with_reducible rfl)
            try simp only[Act.put,sT,sZ,sS]
            refine tkA 2 ⟨some 104,.indexAddr 38 (.tmp 102) (.tmp 103),0,"l08_edge.go:50",#[⟨0,.data⟩,⟨1,.data⟩],none⟩ ?_ (fun w h=>?_) ?_;rotate_left
            ·(try dsimp only at h);go_simp;(try with_reducible rfl)
            try simp only[Act.put,sT,sZ,sS]
            refine tkA 3 ⟨some 105,.fieldAddr 107 (.tmp 104) 1,0,"l08_edge.go:50",#[⟨2,.data⟩],none⟩ ?_ (fun w h=>?_) ?_;rotate_left
            ·(try dsimp only at h);go_simp;(try with_reducible rfl)
            try simp only[Act.put,sT,sZ,sS]
            refine tkA 4 ⟨some 106,.load 105 (.tmp 105),105,"l08_edge.go:50",#[⟨3,.data⟩],none⟩ ?_ (fun w h=>?_) ?_;rotate_left
            ·(try dsimp only at h);go_simp;(try with_reducible rfl)
            try simp only[Act.put,sT,sZ,sS]
            refine tkA 5 ⟨some 107,.move (.tmp 12),3,"l08_edge.go:50",#[],none⟩ ?_ (fun w h=>?_) ?_;rotate_left
            ·(try dsimp only at h);go_simp;(try with_reducible rfl)
            try simp only[Act.put,sT,sZ,sS]
            refine tkA 6 ⟨some 108,.indexAddr 105 (.tmp 106) (.tmp 107),0,"l08_edge.go:50",#[⟨4,.data⟩,⟨5,.data⟩],none⟩ ?_ (fun w h=>?_) ?_;rotate_left
            ·(try dsimp only at h);go_simp;(try with_reducible rfl)
            try simp only[Act.put,sT,sZ,sS]
            refine tkA 7 ⟨some 109,.fieldAddr 143 (.tmp 108) 0,0,"l08_edge.go:50",#[⟨6,.data⟩],none⟩ ?_ (fun w h=>?_) ?_;rotate_left
            ·(try dsimp only at h);go_simp;(try with_reducible rfl)
            try simp only[Act.put,sT,sZ,sS]
            refine tkA 8 ⟨some 110,.load 3 (.tmp 109),3,"l08_edge.go:50",#[⟨7,.data⟩],none⟩ ?_ (fun w h=>?_) ?_;rotate_left
            ·(try dsimp only at h);go_simp;(try with_reducible rfl)
            try simp only[Act.put,sT,sZ,sS]
            refine tkA 9 ⟨some 111,.fieldAddr 149 (.tmp 7) 0,0,"l08_edge.go:50",#[],none⟩ ?_ (fun w h=>?_) ?_;rotate_left
            ·(try dsimp only at h);go_simp;(try with_reducible rfl)
            try simp only[Act.put,sT,sZ,sS]
            refine tkA 10 ⟨some 112,.load 3 (.tmp 111),3,"l08_edge.go:50",#[⟨9,.data⟩],none⟩ ?_ (fun w h=>?_) ?_;rotate_left
            ·(try dsimp only at h);go_simp;(try with_reducible rfl)
            try simp only[Act.put,sT,sZ,sS]
            refine tkA 11 ⟨some 113,.binOp .eql 3 (.tmp 110) (.tmp 112) 3,4,"l08_edge.go:50",#[⟨8,.data⟩,⟨10,.data⟩],none⟩ ?_ (fun w h=>?_) ?_;rotate_left
            ·(try dsimp only at h);go_simp;(try with_reducible rfl)
            try simp only[Act.put,sT,sZ,sS]
            refine wpAnyH_done (by kernel_rfl) ?_ _;simp only[noThrow,Exit.then]
            go_at_K
            clear hHeld;go_wp2_with fail
            go_roundw
            case rel=>exact⟨j+1,by omega,by simp,aB.out,az.out,aW.out,aH.out⟩
            case measure=>simp[intOf];omega
          ·have ej:j=an:=by omega
           subst ej;go_wp2_with fail
           go_roundw
           case rel=>exact⟨g+1,by omega,by simp,L.out.congr (by rw[←HAN.out,afv HP.out]),az.out,aH.out⟩
           case measure=>simp[intOf];omega
        ·have eg:g=pn:=by omega
         subst eg;go_wp2_with fail
         go_roundw
         case rel=>
          have ap:Ji (w.heap.size+1+1) O w5 wg vals r (sq rb 0 (nk+1) rcap) (ko F.blocks es (k+1)):=by
           refine aK.out.congr ?_;have h9:=agh (bs0:=F.blocks) (x:=⟨xp,xl,tk,ta,tt,te⟩) (y:=y) HE.out ac.out ad.out ax.out aG.out (by rw[HB1.out];exact HX.out) (by rw[HB1.out,HNK.out];show(B1.set f ⟨xp,xl,Xz e (nk:Int) f ⟨tk,ta,tt,te⟩⟩)[t]?=some y;rw[aU.out,HB2EQ'.out];exact HY.out);rw[HB1.out,HNK.out] at h9;dsimp only at h9;rw[aU.out,HB2EQ'.out] at h9;rw[←h9,←HPN.out,afw]
          first
           | exact(show ahW (w.heap.size+1+1) O w5 vals F es m _ _ from⟨k+1,_,r,by omega,by simp,ap⟩)
           | ((repeat apply Exists.intro);exact⟨(show ahW (w.heap.size+1+1) O w5 vals F es m _ _ from⟨k+1,_,r,by omega,by simp,ap⟩),rfl⟩)
         case measure=>simp[intOf];omega
    ·have bt:m=k:=by omega
     subst bt;obtain⟨qa,qcap,rfl⟩:∃a c,bv=.slice a (n+m) c:=by
      obtain⟨a,c,e⟩:=ST.out.fn.rows.is;exact⟨a,c,by rw[e,Zk (by have:=HM.out;omega),HN.out]⟩
     have Rq:Hid (wq.heap[w.heap.size+1]?=some (.cells #[.slice none 0 0,vi 0] 26 (0,0))):=(ST.out.bel.block _ (by omega)).trans R5.out;obtain⟨r0,r1,hF6,hB6⟩:=zz (w:=w) (vals:=vals) (F := { F with blocks:=ko F.blocks es m }) (by omega) Rq.out ST.out.fn (B5.out.trans (ST.out.bel.mono (by omega)));have m0:wq.cell? (Z O 0)=some (.slice qa (n+m) qcap):=(kH ST.out.box 0).trans rfl;have m1:wq.cell? (Z O 1)=some (vi vals):=(kH ST.out.box 1).trans rfl;have y0:wq.cell? (Z (w.heap.size+1) 0)=some (.slice none 0 0):=(kH Rq.out 0).trans rfl;have y1:wq.cell? (Z (w.heap.size+1) 1)=some (vi 0):=(kH Rq.out 1).trans rfl;have z0:=KO Rq.out 0;have z1:=KO Rq.out 1;have ae:Hid (FnO w.heap.size own' _ (.slice qa (n+m) qcap) (ko F.blocks es m)):=hF6;have X:Hid (Below w.heap.size w _):=hB6;clear hF6 hB6;go_wp2_with fail
     refine bodyPost_ret (v:=.tuple #[.agg #[.slice qa (n+m) qcap,vi vals],.bool true]) (by simp[results,Tryz.results83,go_sem,r0,r1]) rfl ?_;exact⟨_,own',by rw[JQ,HV.out,ah.out.2],by rw[ah.out.1];exact ae.out,X.out⟩
 ·have G:Hid (JW F=F∧yq F=false):=adB (fun h=>aC (HCK.out.symm.trans h.1));have bN:(ck != 0)=true:=by simp[aC]
  obtain⟨r0,r1,hF6,hB6⟩:=zz (w:=w) (vals:=vals) (by omega) R4.out aR.out B4.out;have m0:w4.cell? (Z O 0)=some (.slice sa n scap):=(kH O4.out 0).trans rfl;have m1:w4.cell? (Z O 1)=some (vi vals):=(kH O4.out 1).trans rfl;have y0:w4.cell? (Z (w.heap.size+1) 0)=some (.slice none 0 0):=(kH R4.out 0).trans rfl;have y1:w4.cell? (Z (w.heap.size+1) 1)=some (vi 0):=(kH R4.out 1).trans rfl;have z0:=KO R4.out 0;have z1:=KO R4.out 1;have ae:Hid (FnO w.heap.size own _ (.slice sa n scap) F.blocks):=hF6;have X:Hid (Below w.heap.size w _):=hB6;clear hF6 hB6 aC;go_wp2_with fail
  refine bodyPost_ret (v:=.tuple #[.agg #[.slice sa n scap,vi vals],.bool false]) (by simp[results,Tryz.results83,go_sem,r0,r1]) rfl ?_;exact⟨_,own,by rw[JQ,HV.out,G.out.2],by rw[G.out.1];exact ae.out,X.out⟩
end Go.Proofs.YtkbhbekfniadhaaGreat
