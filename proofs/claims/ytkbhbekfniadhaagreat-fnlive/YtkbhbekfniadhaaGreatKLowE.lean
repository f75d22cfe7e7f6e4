/- What the laws on plain programs draw: the model's l10Draw. The drawn plain programs of the laws. -/
import Derived.Test.YtkbhbekfniadhaaGreatTkK
import Derived.Test.YtkbhbekfniadhaaGreatTk0
import Derived.Test.YtkbhbekfniadhaaGreatKLowD
set_option maxRecDepth 100000
set_option maxHeartbeats 16000000
namespace Go.Proofs.YtkbhbekfniadhaaGreat
open Go.ChangeShapes Go.WideShapes Go.ChangeAt Go.RowKit
set_option linter.unusedVariables false
theorem FnO.head {lo:Nat}{own:k6}{w:World}{bv:Value}{bs:List jc}(h:FnO lo own w bv bs){i:Nat}{x:jc}(hx:bs[i]?=some x){rb roff n cap:Nat}(hv:bv=sq rb roff n cap){lv':Value}{l':List kS}(hl':kE (fun g=>own g=(2,i,0)) 5 (fun _=>jU) w lv' l'):FnO lo own (w.setCell (Z rb (roff+i*6+1)) lv') bv (bs.set i { x with list:=l' }):=by
 have hi:i<bs.length:=(List.getElem?_eq_some_iff.1 hx).1;have hs:∀g,g≠rb→(w.setCell (Z rb (roff+i*6+1)) lv').heap[g]?=w.heap[g]?:=fun g hg=>Below.heap_setCell _ _ _ g hg
 have hc:∀o,o≠roff+i*6+1→(w.setCell (Z rb (roff+i*6+1)) lv').cell? (Z rb o)=w.cell? (Z rb o):=fun o ho=>World.cell?_setCell_other _ _ _ _ (fun e=>ho (by have:=congrArg Addr.off e;simp at this;omega))
 refine⟨?_,h.low,fun g hg=>by simpa using h.high g hg,fun g hg j=>by simpa using h.aaz g hg j⟩;obtain⟨a,cap0,e0,hm,hcc⟩:=h.rows;refine⟨a,cap0,by rw[List.length_set];exact e0,by rw[List.length_set];exact hm,fun hp=>?_⟩;rw[List.length_set] at hp;obtain⟨b,off,ha,hb,hd⟩:=hcc hp;have e1:=e0.symm.trans hv;rw[ha] at e1;simp at e1;obtain⟨⟨rfl,rfl⟩,_⟩:=e1;have r:∀g,own g≠(0,0,0)→(w.setCell (Z b (off+i*6+1)) lv').heap[g]?=w.heap[g]?:=fun g hg=>hs g (fun e=>hg (by rw[e];exact hb))
 refine⟨b,off,ha,hb,fun j y hy=>?_⟩;by_cases e:j=i
 ·subst e;rw[List.getElem?_set_self hi] at hy;cases hy
  obtain⟨pv,lv,c0,c1,c2,c3,c4,c5,hp,hl⟩:=hd j x hx;exact⟨pv,lv',(hc _ (by omega)).trans c0,World.cell?_setCell_same _ _ _ c1,(hc _ (by omega)).trans c2,(hc _ (by omega)).trans c3,(hc _ (by omega)).trans c4,(hc _ (by omega)).trans c5,xE hp (fun g hg=>r g (by rw[hg];simp)) (fun g j hg=>r g (by rw[hg];simp)),yj hl' (fun g hg=>r g (by rw[hg];simp))⟩
 ·rw[List.getElem?_set_ne (by omega)] at hy;obtain⟨pv,lv,c0,c1,c2,c3,c4,c5,hp,hl⟩:=hd j y hy;exact⟨pv,lv,(hc _ (by omega)).trans c0,(hc _ (by omega)).trans c1,(hc _ (by omega)).trans c2,(hc _ (by omega)).trans c3,(hc _ (by omega)).trans c4,(hc _ (by omega)).trans c5,xE hp (fun g hg=>r g (by rw[hg];simp)) (fun g j hg=>r g (by rw[hg];simp)),yj hl (fun g hg=>r g (by rw[hg];simp))⟩
structure Xh (C R2 R3:Nat)(w wr:World)(bv:Value)(own:k6)(F:FnD):Prop where
 cur:Cur wr C
 bel:Below C w wr
 b2:wr.heap[R2]?=some (.cells #[.slice none 0 0,vi 0] 26 (0,0))
 b3:wr.heap[R3]?=some (.cells #[bv,vi F.values] 26 (0,0))
 fn:FnO (C+1) own wr bv F.blocks
 len:F.blocks.length≤16
 o2:3<(own R2).1
 o3:3<(own R3).1
 r:C<R2∧R2<R3
theorem Xh.draw {C R2 R3:Nat}{w wr wr':World}{bv:Value}{own:k6}{F:FnD}(h:Xh C R2 R3 w wr bv own F)(hf:Fr C wr wr')(hc:Cur wr' C):Xh C R2 R3 w wr' bv own F:=by
 obtain⟨r1,r2⟩:=h.r;exact⟨hc,h.bel.trans (hf.yL (Nat.le_of_lt h.cur.lt)),(hf.block R2 (aI h.b2).1 (by omega)).trans h.b2,(hf.block R3 (aI h.b3).1 (by omega)).trans h.b3,h.fn.same (fun g hg=>hf.block g (h.fn.high g hg) (by have:=h.fn.low g hg;omega)) hf.size,h.len,h.o2,h.o3,h.r⟩
theorem Xh.finish {C R2 R3:Nat}{w wr:World}{bv:Value}{own:k6}{F:FnD}(h:Xh C R2 R3 w wr bv own F)(h0:0<F.blocks.length):qD C w (.returned (.agg #[bv,vi F.values])) ((wr.setCell (Z R2 0) bv).setCell (Z R2 1) (vi F.values)):=by
 obtain⟨r1,r2⟩:=h.r;exact⟨_,F,rfl,(h.fn.boxed h.o2 _ _).fnAt rfl,h0,Nat.le_trans h.len (by decide),(h.bel.setCell (p:=(Z R2 0)) (Nat.le_of_lt r1) _).setCell (p:=(Z R2 1)) (Nat.le_of_lt r1) _,h.cur.below r1 (((Below.refl R2 wr).setCell (p:=(Z R2 0)) (Nat.le_refl _) _).setCell (p:=(Z R2 1)) (Nat.le_refl _) _)⟩
theorem ae5 {C R2:Nat}{w w3 w4:World}{g n cap:Nat}{vals:Int}(hB:Below C w w3)(hP:kj (C+1) g n cap w4)(h0:0<n)(h9:n≤900)(hB4:Below C w3 w4)(hc:Cur w4 C)(hr:C<R2)(h2:w4.heap[R2]?=some (.cells #[.slice none 0 0,vi 0] 26 (0,0))) :
  qD C w (.returned (.agg #[sq g 0 n cap,vi vals])) ((w4.setCell (Z R2 0) (sq g 0 n cap)).setCell (Z R2 1) (vi vals)):=by
 obtain⟨F,hF,hl⟩:=hP.read vals (Zp w4 R2 0 1 (sq g 0 n cap) (vi vals)) h2;exact⟨_,F,rfl,hF,by omega,by omega,((hB.trans hB4).setCell (p:=(Z R2 0)) (Nat.le_of_lt hr) _).setCell (p:=(Z R2 1)) (Nat.le_of_lt hr) _,hc.below hr (((Below.refl R2 w4).setCell (p:=(Z R2 0)) (Nat.le_refl _) _).setCell (p:=(Z R2 1)) (Nat.le_refl _) _)⟩
theorem XU (w:World)(lb o:Nat)(y:kS){g:Nat}(h:g≠lb):(qj w lb o y).heap[g]?=w.heap[g]?:=by
 unfold qj;rw[Below.heap_setCell _ _ _ g h,Below.heap_setCell _ _ _ g h,Below.heap_setCell _ _ _ g h,Below.heap_setCell _ _ _ g h,Below.heap_setCell _ _ _ g h]
theorem Yn {lo:Nat}(w:World)(lb o:Nat)(y:kS)(h:lo≤lb):Below lo w (qj w lb o y):=by
 unfold qj;exact(((((Below.refl lo w).setCell (p:=(Z lb o)) h _).setCell (p:=(Z lb (o+1))) h _).setCell (p:=(Z lb (o+2))) h _).setCell (p:=(Z lb (o+3))) h _).setCell (p:=(Z lb (o+4))) h _
theorem Xh.put {C R2 R3:Nat}{w wr:World}{own:k6}{F:FnD}{rb roff n cap b k:Nat}(h:Xh C R2 R3 w wr (sq rb roff n cap) own F){x:jc}(hx:F.blocks[b]?=some x){z:kS}(hz:x.list[k]?=some z){lb loff m lcap:Nat}(hlv:wr.cell? (Z rb (roff+b*6+1))=some (sq lb loff m lcap))(hlb:own lb=(2,b,0))(y:kS) :
  ∃F':FnD,Xh C R2 R3 w (qj wr lb (loff+k*5) y) (sq rb roff n cap) own F'∧F'.values=F.values∧F'.blocks.length=F.blocks.length:=by
 have h3:(own lb).1≤3:=by rw[hlb];simp
 have t:=h.fn.low lb h3;have n2:R2≠lb:=fun e=>by have:=h.o2;rw[e] at this;omega
 have n3:R3≠lb:=fun e=>by have:=h.o3;rw[e] at this;omega
 refine⟨⟨F.blocks.set b { x with list:=x.list.set k y },F.values⟩,⟨h.cur.below (lo:=C+1) (by omega) (Yn wr lb _ y t),h.bel.trans (Yn wr lb _ y (by omega)),(XU _ _ _ _ n2).trans h.b2,(XU _ _ _ _ n3).trans h.b3,h.fn.puts hx hz rfl hlv y,by rw[List.length_set];exact h.len,h.o2,h.o3,h.r⟩,rfl,by rw[List.length_set]⟩
theorem Xh.behead {C R2 R3:Nat}{w wr:World}{own:k6}{F:FnD}{rb roff n cap b:Nat}(h:Xh C R2 R3 w wr (sq rb roff n cap) own F){x:jc}(hx:F.blocks[b]?=some x)(hrb:own rb=(0,0,0)){lv':Value}{l':List kS}(hl':kE (fun g=>own g=(2,b,0)) 5 (fun _=>jU) wr lv' l') :
  ∃F':FnD,Xh C R2 R3 w (wr.setCell (Z rb (roff+b*6+1)) lv') (sq rb roff n cap) own F'∧F'.values=F.values∧F'.blocks.length=F.blocks.length:=by
 have h3:(own rb).1≤3:=by rw[hrb];simp
 have t:=h.fn.low rb h3;have n2:R2≠rb:=fun e=>by have:=h.o2;rw[e] at this;omega
 have n3:R3≠rb:=fun e=>by have:=h.o3;rw[e] at this;omega
 refine⟨⟨F.blocks.set b { x with list:=l' },F.values⟩,⟨h.cur.below (lo:=C+1) (by omega) ((Below.refl _ wr).setCell (p:=(Z rb _)) t _),h.bel.setCell (p:=(Z rb _)) (by show C≤rb;omega) _,(Below.heap_setCell _ _ _ R2 n2).trans h.b2,(Below.heap_setCell _ _ _ R3 n3).trans h.b3,h.fn.head hx rfl hl',by rw[List.length_set];exact h.len,h.o2,h.o3,h.r⟩,rfl,by rw[List.length_set]⟩
theorem aaT {w:World}{g j:Nat}{z:kS}(q:jU w g j z)(r:∀k,w.frozen? (Z g k)=false)(o d a b n:Int) :
  (Instr.storeAt 47 (.pointer (some (Z g j))) (.agg #[vi o,vi d,vi a,vi b,vi n])).run Tryz.prog w=.ok () (qj w g j ⟨o,d,a,b,n⟩):=by
 obtain⟨q0,q1,q2,q3,q4⟩:=q;simp[Instr.storeAt,Instr.sureAddr,go_sem,q0,q1,q2,q3,q4,r,qj]
theorem ad9 (C:Nat)(w:World)(hc:Cur w C):Calls Tryz.prog 36 #[.pointer (some (Z C 0))] w fun e w'=>qD C w e w':=by
 have HC:Hid (Cur w C):=hc;have ae:C<w.heap.size:=hc.lt;clear hc;obtain⟨w1,hw1⟩:∃W,w.alloc (.cells #[.slice none 0 0,vi 0] 26)=W:=⟨_,rfl⟩;have b1:Below w.heap.size w w1:=by rw[←hw1];exact Bel.alloc _ _
 have X1:Hid (w1.heap[w.heap.size]?=some (.cells #[.slice none 0 0,vi 0] 26 (0,0))):=by rw[←hw1];exact World.alloc_heap_new _ _
 have aR:w1.heap.size=w.heap.size+1:=by rw[←hw1];simp
 have ah:Hid (Cur w1 C):=HC.out.later b1;have B1:Hid (Below C w w1):=b1.mono (Nat.le_of_lt ae);go_enter Tryz.func36,Tryz.ntmps36
 go_wp2_with fail
 try rw[hw1]
 clear hw1 b1;refine(ab4 C _ ah.out).mono ?_;rintro e w2 ⟨aP,own,F,rfl,fo2,cp2,hlen,b2,c2,s2,k2⟩;obtain⟨a2,c2',rfl⟩:=fo2.isSlice;obtain⟨n,HN⟩:∃z,Hid (F.blocks.length=z):=⟨_,rfl⟩;obtain⟨vals,HV⟩:∃z,Hid (F.values=z):=⟨_,rfl⟩;rw[HN.out] at fo2 cp2 ⊢;rw[HV.out];obtain⟨w3,hw3⟩:∃W,w2.alloc (.cells #[.slice a2 n c2',vi vals] 26)=W:=⟨_,rfl⟩;have b3:Below w2.heap.size w2 w3:=by rw[←hw3];exact Bel.alloc _ _
 have x3:w3.heap[w2.heap.size]?=some (.cells #[.slice a2 n c2',vi vals] 26 (0,0)):=by rw[←hw3];exact World.alloc_heap_new _ _
 have X2:=k2 _ _ _ ae X1.out;have S3:Hid (Xh C w.heap.size w2.heap.size w w3 (.slice a2 n c2') own F) :=
  ⟨c2.later b3,(B1.out.trans b2).trans (b3.mono (by omega)),(b3.block _ (aI X2).1).trans X2,by rw[HV.out];exact x3,(fo2.keep b3).low' (by omega),hlen,Ym fo2 (.inl (by omega)),Ym fo2 (.inr (Nat.le_refl _)),⟨ae,by omega⟩⟩
 have ay:Hid (ab1 own w3 (.slice a2 n c2') F.blocks):=cp2.same (fun g hg=>b3.block g (fo2.high g (by rw[hg];simp)));have ab:Hid (∀wr I bv,Xh C w.heap.size w2.heap.size w wr bv own F→Fr C wr I→ab1 own wr bv F.blocks→ab1 own I bv F.blocks):=fun wr I bv h hf hc=>hc.same (fun g hg=>hf.block g (h.fn.high g (by rw[hg];simp)) (by have h9:=h.fn.low g (by rw[hg];simp);omega))
 obtain⟨R2,HR2⟩:∃z,Hid (w.heap.size=z):=⟨_,rfl⟩;obtain⟨R3,HR3⟩:∃z,Hid (w2.heap.size=z):=⟨_,rfl⟩;rw[HR2.out,HR3.out] at S3 ab;have c0:w3.cell? (Z R3 0)=some (.slice a2 n c2'):=by simp[World.cell?,S3.out.b3]
 have aM:(n:Int)≤16:=by have:=HN.out;omega
 have c0:w3.cell? (Z w2.heap.size 0)=some (.slice a2 n c2'):=by rw[HR3.out];exact c0
 rw[HR2.out];clear cp2 fo2 b2 c2 k2 b3 x3 X2 X1 B1 ah;by_cases aL:n=0
 ·subst aL;go_wp2_with fail
  refine(acY C _ S3.out.cur).mono ?_;rintro e w9 ⟨g4,n4,cap4,vals4,rfl,h40,h49,hP,hB4,hc4,hK4⟩;have X4:=hK4 R2 _ _ S3.out.r.1 S3.out.b2;have y0:w9.cell? (Z R2 0)=some (.slice none 0 0):=by simp[World.cell?,X4]
  have y1:w9.cell? (Z R2 1)=some (vi 0):=by simp[World.cell?,X4]
  have z0:w9.frozen? (Z R2 0)=false:=by simp[World.frozen?,X4]
  have z1:w9.frozen? (Z R2 1)=false:=by simp[World.frozen?,X4]
  have G:((w9.setCell (Z R2 0) (sq g4 0 n4 cap4)).setCell (Z R2 1) (vi vals4)).cell? (Z R2 0)=some (sq g4 0 n4 cap4):=by simp[World.cell?,qI X4]
  have H:((w9.setCell (Z R2 0) (sq g4 0 n4 cap4)).setCell (Z R2 1) (vi vals4)).cell? (Z R2 1)=some (vi vals4):=by simp[World.cell?,qI X4]
  have B:Hid (qD C w (.returned (.agg #[sq g4 0 n4 cap4,vi vals4])) ((w9.setCell (Z R2 0) (sq g4 0 n4 cap4)).setCell (Z R2 1) (vi vals4))):=ae5 S3.out.bel hP h40 h49 hB4 hc4 S3.out.r.1 X4;clear hP hB4 hc4 hK4 X4;go_wp2_with fail
  refine bodyPost_ret (v:=.agg #[sq g4 0 n4 cap4,vi vals4]) (by simp[results,Tryz.results36,go_sem,G,H]) rfl ?_;exact B.out
 ·have aQ:¬((n:Int)=0):=by omega
  go_wp2_with fail
  refine(YS C 12 _ S3.out.cur).mono ?_;rintro e w4 ⟨q,rfl,hf,hc⟩;have S4:Hid (Xh C R2 R3 w w4 (.slice a2 n c2') own F):=S3.out.draw hf hc;have az:Hid (ab1 own w4 (.slice a2 n c2') F.blocks):=ab.out _ _ _ S3.out hf ay.out;clear hf hc S3 c0;rw[HR3.out];cases q with
  | true=>
   go_wp2_with fail
   refine(acY C _ S4.out.cur).mono ?_;rintro e w9 ⟨g4,n4,cap4,vals4,rfl,h40,h49,hP,hB4,hc4,hK4⟩;have X4:=hK4 R2 _ _ S4.out.r.1 S4.out.b2;have y0:w9.cell? (Z R2 0)=some (.slice none 0 0):=by simp[World.cell?,X4]
   have y1:w9.cell? (Z R2 1)=some (vi 0):=by simp[World.cell?,X4]
   have z0:w9.frozen? (Z R2 0)=false:=by simp[World.frozen?,X4]
   have z1:w9.frozen? (Z R2 1)=false:=by simp[World.frozen?,X4]
   have G:((w9.setCell (Z R2 0) (sq g4 0 n4 cap4)).setCell (Z R2 1) (vi vals4)).cell? (Z R2 0)=some (sq g4 0 n4 cap4):=by simp[World.cell?,qI X4]
   have H:((w9.setCell (Z R2 0) (sq g4 0 n4 cap4)).setCell (Z R2 1) (vi vals4)).cell? (Z R2 1)=some (vi vals4):=by simp[World.cell?,qI X4]
   have B:Hid (qD C w (.returned (.agg #[sq g4 0 n4 cap4,vi vals4])) ((w9.setCell (Z R2 0) (sq g4 0 n4 cap4)).setCell (Z R2 1) (vi vals4))):=ae5 S4.out.bel hP h40 h49 hB4 hc4 S4.out.r.1 X4;clear hP hB4 hc4 hK4 X4;go_wp2_with fail
   refine bodyPost_ret (v:=.agg #[sq g4 0 n4 cap4,vi vals4]) (by simp[results,Tryz.results36,go_sem,G,H]) rfl ?_;exact B.out
  | false=>
   have M:Hid (0<F.blocks.length):=by rw[HN.out];show _<_;omega
   have c0:w4.cell? (Z R3 0)=some (.slice a2 n c2'):=by simp[World.cell?,S4.out.b3]
   go_wp2_with fail
   refine(jH C (n:Int) _ S4.out.cur).mono ?_;rintro e w5 ⟨bz,rfl,hb0,am,_,hf,hc⟩;have S5:Hid (Xh C R2 R3 w w5 (.slice a2 n c2') own F):=S4.out.draw hf hc;have aA:Hid (ab1 own w5 (.slice a2 n c2') F.blocks):=ab.out _ _ _ S4.out hf az.out;obtain⟨b,rfl⟩:=Int.eq_ofNat_of_zero_le hb0;replace am:(b:Int)<(n:Int):=am (by omega);have aE:b<n:=by omega
   clear hf hc S4 c0;obtain⟨x,HX⟩:∃x,Hid (F.blocks[b]?=some x):=⟨_,List.getElem?_eq_getElem (by rw[HN.out];exact aE)⟩;obtain⟨rb,roff,cap0,pv,lv,ev,hrb,_,hlv0,hre⟩:=S5.out.fn.aez HX.out;simp at ev;obtain⟨e1,en9,e2⟩:=ev;clear en9;subst e1 e2;obtain⟨ln,HLN⟩:∃z,Hid (x.list.length=z):=⟨_,rfl⟩;have O:Hid (own rb=(0,0,0)):=hrb;have L:Hid (∀wr,Xh C R2 R3 w wr (sq rb roff n c2') own F→∃la lc,wr.cell? (Z rb (roff+b*6+1))=some (.slice la ln lc)∧kE (fun g=>own g=(2,b,0)) 5 (fun _=>jU) wr (.slice la ln lc) x.list):=fun wr h=>by
    obtain⟨aS,roff',e,_,pv',lv',_,q1,_,_,_,_,_,hl⟩:=h.fn.rows.get HX.out;simp at e;obtain⟨rfl,rfl⟩:=e;obtain⟨la,lc,e9⟩:=hl.is;rw[HLN.out] at e9;rw[e9] at q1 hl;exact⟨la,lc,q1,hl⟩
   clear hre hlv0 hrb;have c0:w5.cell? (Z R3 0)=some (sq rb roff n c2'):=by simp[World.cell?,S5.out.b3]
   obtain⟨la,lc,l0,hL5⟩:=L.out _ S5.out;go_wp2_with fail
   refine(jH C 12 _ S5.out.cur).mono ?_;rintro e w6 ⟨kz,rfl,hk0,hk1,_,hf,hc⟩;have S6:Hid (Xh C R2 R3 w w6 (sq rb roff n c2') own F):=S5.out.draw hf hc;have aB:Hid (ab1 own w6 (sq rb roff n c2') F.blocks):=ab.out _ _ _ S5.out hf aA.out;clear hf hc S5 c0 l0 hL5 hk1;obtain⟨ar,lc6,l6,hL6⟩:=L.out _ S6.out;by_cases ao:kz=0
   ·subst ao;by_cases ag:ln=0
    ·subst ag;clear l6 hL6;have y0:w6.cell? (Z R2 0)=some (.slice none 0 0):=by simp[World.cell?,S6.out.b2]
     have y1:w6.cell? (Z R2 1)=some (vi 0):=by simp[World.cell?,S6.out.b2]
     have z0:w6.frozen? (Z R2 0)=false:=by simp[World.frozen?,S6.out.b2]
     have z1:w6.frozen? (Z R2 1)=false:=by simp[World.frozen?,S6.out.b2]
     have p0:w6.cell? (Z R3 0)=some (sq rb roff n c2'):=by simp[World.cell?,S6.out.b3]
     have p1:w6.cell? (Z R3 1)=some (vi vals):=by have h9:=S6.out.b3;rw[HV.out] at h9;simp[World.cell?,h9]
     have G:((w6.setCell (Z R2 0) (sq rb roff n c2')).setCell (Z R2 1) (vi vals)).cell? (Z R2 0)=some (sq rb roff n c2'):=by simp[World.cell?,qI S6.out.b2]
     have H:((w6.setCell (Z R2 0) (sq rb roff n c2')).setCell (Z R2 1) (vi vals)).cell? (Z R2 1)=some (vi vals):=by simp[World.cell?,qI S6.out.b2]
     have B:Hid (qD C w (.returned (.agg #[sq rb roff n c2',vi vals])) ((w6.setCell (Z R2 0) (sq rb roff n c2')).setCell (Z R2 1) (vi vals))):=by
      have h9:=S6.out.finish M.out;rw[HV.out] at h9;exact h9
     go_wp2_with fail
     refine bodyPost_ret (v:=.agg #[sq rb roff n c2',vi vals]) (by simp[results,Tryz.results36,go_sem,G,H]) rfl ?_;exact B.out
    ·have aJ:(0:Int)<(ln:Int):=by omega
     have c0:w6.cell? (Z R3 0)=some (sq rb roff n c2'):=by simp[World.cell?,S6.out.b3]
     obtain⟨lb,loff,elb,hlb,hit⟩:∃lb loff,ar=some (Z lb loff)∧own lb=(2,b,0)∧∀i z,x.list[i]?=some z→jU w6 lb (loff+i*5) z:=by
      obtain⟨a,c,e,_,hcc⟩:=hL6;obtain⟨lb,loff,ha,hb,hd⟩:=hcc (by have:=HLN.out;omega);simp at e;exact⟨lb,loff,e.1.trans ha,hb,hd⟩
     subst elb;have aa:Hid (own lb=(2,b,0)):=hlb;have V:0<ln:=by omega
     have J:Hid (∀wr,Xh C R2 R3 w wr (sq rb roff n c2') own F→wr.cell? (Z rb (roff+b*6+1))=some (sq lb loff ln lc6)→wr.cell? (Z R3 0)=some (sq rb roff n c2')∧wr.cell? (Z R3 1)=some (vi vals)∧wr.cell? (Z rb (roff+b*6+1))=some (sq lb loff ln lc6)):=fun wr h hl=>
      ⟨by simp[World.cell?,h.b3],by have h9:=h.b3;rw[HV.out] at h9;simp[World.cell?,h9],hl⟩
     have ac:Hid (∀wr I,Xh C R2 R3 w wr (sq rb roff n c2') own F→Fr C wr I→wr.cell? (Z rb (roff+b*6+1))=some (sq lb loff ln lc6)→I.cell? (Z rb (roff+b*6+1))=some (sq lb loff ln lc6)):=fun wr I h hf hl=>by
      have h3:(own rb).1≤3:=by rw[O.out];simp
      exact(hf.cell (x:=(Z rb (roff+b*6+1))) (h.fn.high rb h3) (by show rb≠C;have:=h.fn.low rb h3;omega)).trans hl
     clear hL6 hlb hit;go_wp2_with fail
     refine wp_region_held_drew (S:=fun w'=>w'.cell? (Z R3 0)=some (sq rb roff n c2')∧w'.cell? (Z R3 1)=some (vi vals)∧w'.cell? (Z rb (roff+b*6+1))=some (sq lb loff ln lc6)) (by kernel_rfl) (J.out _ (S6.out.draw ((Fr.refl C w6).drew) (S6.out.cur.later (Below.refl _ w6).drew)) l6) (fun hHeld=>?_);obtain⟨wB,hwB⟩:∃W,w6.drew=W:=⟨_,rfl⟩;have SB:Hid (Xh C R2 R3 w wB (sq rb roff n c2') own F):=by
      rw[←hwB];exact S6.out.draw ((Fr.refl C w6).drew) (S6.out.cur.later (Below.refl _ w6).drew)
     rw[hwB] at hHeld ⊢;clear hwB c0 l6 S6;have lB:=hHeld.2.2;refine tkA 0 ⟨some 36,.fieldAddr 26 (.tmp 3) 0,0,"l10_plain.go:95",#[],none⟩ ?_ (fun w h=>?_) ?_;rotate_left
     ·(try dsimp only at h);go_simp;(try with_reducible rfl)
     try simp only[Act.put,sT,sZ,sS]
     refine tkA 1 ⟨some 37,.load 24 (.tmp 36),24,"l10_plain.go:95",#[⟨0,.data⟩],none⟩ ?_ (fun w h=>?_) ?_;rotate_left
     ·(try dsimp only at h);go_simp;(try with_reducible rfl)
     try simp only[Act.put,sT,sZ,sS]
     refine tkA 2 ⟨some 38,.move (.tmp 4),3,"l10_plain.go:95",#[],none⟩ ?_ (fun w h=>?_) ?_;rotate_left
     ·(try dsimp only at h);go_simp;(try with_reducible rfl)
     try simp only[Act.put,sT,sZ,sS]
     refine tkA 3 ⟨some 39,.indexAddr 24 (.tmp 37) (.tmp 38),0,"l10_plain.go:95",#[⟨1,.data⟩,⟨2,.data⟩],none⟩ ?_ (fun w h=>?_) ?_;rotate_left
     ·(try dsimp only at h);go_simp;(try with_reducible rfl)
     try simp only[Act.put,sT,sZ,sS]
     refine tkA 4 ⟨some 40,.fieldAddr 43 (.tmp 39) 1,0,"l10_plain.go:95",#[⟨3,.data⟩],none⟩ ?_ (fun w h=>?_) ?_;rotate_left
     ·(try dsimp only at h);go_simp;(try with_reducible rfl)
     try simp only[Act.put,sT,sZ,sS]
     refine tkA 5 ⟨some 41,.load 39 (.tmp 40),39,"l10_plain.go:95",#[⟨4,.data⟩],none⟩ ?_ (fun w h=>?_) ?_;rotate_left
     ·(try dsimp only at h);go_simp;(try with_reducible rfl)
     try simp only[Act.put,sT,sZ,sS]
     refine tkA 6 ⟨some 42,.move (.tmp 0),58,"l10_plain.go:95",#[],none⟩ ?_ (fun w h=>?_) ?_;rotate_left
     ·(try dsimp only at h);go_simp;(try with_reducible rfl)
     try simp only[Act.put,sT,sZ,sS]
     refine tkA 7 ⟨some 43,.move (.tmp 5),3,"l10_plain.go:95",#[],none⟩ ?_ (fun w h=>?_) ?_;rotate_left
     ·(try dsimp only at h);go_simp;(try with_reducible rfl)
     try simp only[Act.put,sT,sZ,sS]
     refine tkA 9 ⟨some 45,.move (.tmp 0),58,"l10_plain.go:95",#[],none⟩ ?_ (fun w h=>?_) ?_;rotate_left
     ·(try dsimp only at h);go_simp;(try with_reducible rfl)
     try simp only[Act.put,sT,sZ,sS]
     refine tkA 10 ⟨some 46,.fieldAddr 26 (.tmp 3) 1,0,"l10_plain.go:95",#[],none⟩ ?_ (fun w h=>?_) ?_;rotate_left
     ·(try dsimp only at h);go_simp;(try with_reducible rfl)
     try simp only[Act.put,sT,sZ,sS]
     refine tkA 11 ⟨some 47,.load 3 (.tmp 46),3,"l10_plain.go:95",#[⟨10,.data⟩],none⟩ ?_ (fun w h=>?_) ?_;rotate_left
     ·(try dsimp only at h);go_simp;(try with_reducible rfl)
     try simp only[Act.put,sT,sZ,sS]
     refine tkA 13 ⟨some 49,.move (.tmp 0),58,"l10_plain.go:95",#[],none⟩ ?_ (fun w h=>?_) ?_;rotate_left
     ·(try dsimp only at h);go_simp;(try with_reducible rfl)
     try simp only[Act.put,sT,sZ,sS]
     refine tkA 14 ⟨some 50,.fieldAddr 26 (.tmp 3) 1,0,"l10_plain.go:95",#[],none⟩ ?_ (fun w h=>?_) ?_;rotate_left
     ·(try dsimp only at h);go_simp;(try with_reducible rfl)
     try simp only[Act.put,sT,sZ,sS]
     refine tkA 15 ⟨some 51,.load 3 (.tmp 50),3,"l10_plain.go:95",#[⟨14,.data⟩],none⟩ ?_ (fun w h=>?_) ?_;rotate_left
     ·(try dsimp only at h);go_simp;(try with_reducible rfl)
     try simp only[Act.put,sT,sZ,sS]
     refine jg (i:=8) (o:=⟨some 44,.call ⟨.value (.func 48),#[.tmp 42,.tmp 43],#[58,3]⟩,3,"l10_plain.go:95",#[⟨6,.data⟩,⟨7,.data⟩],none⟩) rfl rfl (by kernel_rfl) (fun K9 t=>?_);refine jx (f:=48) (args := #[.pointer (some (Z C 0)),vi (ln:Int)]) (by go_simp) (jH C (ln:Int) _ SB.out.cur) ?_;rintro e wC ⟨kx,rfl,hx0,aq,_,hf,hc⟩;have SC:Hid (Xh C R2 R3 w wC (sq rb roff n c2') own F):=SB.out.draw hf hc;have lC:=ac.out _ _ SB.out hf lB;refine⟨_,rfl,t _ _ ⟨J.out _ SC.out lC,?_⟩⟩
     (try simp only[Act.put,sT,sZ,sS])
     obtain⟨kn,rfl⟩:=Int.eq_ofNat_of_zero_le hx0;replace aq:(kn:Int)<(ln:Int):=aq (by omega);have af:kn<ln:=by omega
     clear t hHeld hf hc SB lB;have hHeld:=J.out _ SC.out lC;refine jg (i:=12) (o:=⟨some 48,.call ⟨.value (.func 48),#[.tmp 45,.tmp 47],#[58,3]⟩,3,"l10_plain.go:95",#[⟨9,.data⟩,⟨11,.data⟩,⟨8,.chain⟩],none⟩) rfl rfl (by kernel_rfl) (fun K9 t=>?_);refine jx (f:=48) (args := #[.pointer (some (Z C 0)),vi vals]) (by go_simp) (jH C vals _ SC.out.cur) ?_;rintro e wD ⟨d1,rfl,_,_,_,hf,hc⟩;have SD:Hid (Xh C R2 R3 w wD (sq rb roff n c2') own F):=SC.out.draw hf hc;have lD:=ac.out _ _ SC.out hf lC;refine⟨_,rfl,t _ _ ⟨J.out _ SD.out lD,?_⟩⟩
     (try simp only[Act.put,sT,sZ,sS])
     clear t hHeld hf hc SC lC;have hHeld:=J.out _ SD.out lD;refine jg (i:=16) (o:=⟨some 52,.call ⟨.value (.func 48),#[.tmp 49,.tmp 51],#[58,3]⟩,3,"l10_plain.go:95",#[⟨13,.data⟩,⟨15,.data⟩,⟨12,.chain⟩],none⟩) rfl rfl (by kernel_rfl) (fun K9 t=>?_);refine jx (f:=48) (args := #[.pointer (some (Z C 0)),vi vals]) (by go_simp) (jH C vals _ SD.out.cur) ?_;rintro e wE ⟨d2,rfl,_,_,_,hf,hc⟩;have SE:Hid (Xh C R2 R3 w wE (sq rb roff n c2') own F):=SD.out.draw hf hc;have lE:=ac.out _ _ SD.out hf lD;refine⟨_,rfl,t _ _ ⟨J.out _ SE.out lE,?_⟩⟩
     (try simp only[Act.put,sT,sZ,sS])
     clear t hHeld hf hc SD lD;have hHeld:=J.out _ SE.out lE;refine tkA 17 ⟨some 53,.build 47 #[(0,.const (vi 25)),(1,.tmp 48),(2,.tmp 52)],47,"l10_plain.go:95",#[⟨12,.data⟩,⟨16,.data⟩],none⟩ ?_ (fun w h=>?_) ?_;rotate_left
     ·(try dsimp only at h);go_simp;(try with_reducible rfl)
     try simp only[Act.put,sT,sZ,sS]
     refine tkA 18 ⟨some 54,.indexAddr 39 (.tmp 41) (.tmp 44),0,"l10_plain.go:95",#[⟨5,.data⟩,⟨8,.data⟩,⟨0,.phase⟩,⟨1,.phase⟩,⟨2,.phase⟩,⟨3,.phase⟩,⟨4,.phase⟩,⟨5,.phase⟩,⟨6,.phase⟩,⟨7,.phase⟩,⟨8,.phase⟩,⟨9,.phase⟩,⟨10,.phase⟩,⟨11,.phase⟩,⟨12,.phase⟩,⟨13,.phase⟩,⟨14,.phase⟩,⟨15,.phase⟩,⟨16,.phase⟩,⟨17,.phase⟩],none⟩ ?_ (fun w h=>?_) ?_;rotate_left
     ·(try dsimp only at h);go_simp;(try with_reducible rfl)
     try simp only[Act.put,sT,sZ,sS]
     obtain⟨z,HZ⟩:∃z,Hid (x.list[kn]?=some z):=⟨_,List.getElem?_eq_getElem (by rw[HLN.out];exact af)⟩;obtain⟨F',hF',hv',hn'⟩:=SE.out.put HX.out HZ.out lE aa.out ⟨25,d1,d2,0,0⟩;have K:Hid (F'.values=vals):=hv'.trans HV.out;have ad:Hid (0<F'.blocks.length):=by rw[hn'];exact M.out
     have S7:Hid (Xh C R2 R3 w (qj wE lb (loff+kn*5) ⟨25,d1,d2,0,0⟩) (sq rb roff n c2') own F'):=hF';have ak:jU wE lb (loff+kn*5) z:=by
      obtain⟨au,lc9,l9,hL9⟩:=L.out _ SE.out;rw[lE] at l9;simp at l9;obtain⟨e1,e2⟩:=l9;subst e1 e2;obtain⟨b9,o9,e9,_,hi9⟩:=hL9.get HZ.out;simp at e9;obtain⟨rfl,rfl⟩:=e9;exact hi9
     have U:∀q,wE.frozen? (Z lb q)=false:=fun q=>SE.out.fn.aaz lb (by rw[aa.out];simp) q
     have X:=aaT ak U 25 d1 d2 0 0;have aC:=hHeld;refine jg (i:=19) (o:=⟨none,.store 47 (.tmp 54) (.tmp 53),0,"l10_plain.go:95",#[⟨18,.data⟩,⟨17,.data⟩,⟨16,.chain⟩,⟨0,.phase⟩,⟨1,.phase⟩,⟨2,.phase⟩,⟨3,.phase⟩,⟨4,.phase⟩,⟨5,.phase⟩,⟨6,.phase⟩,⟨7,.phase⟩,⟨8,.phase⟩,⟨9,.phase⟩,⟨10,.phase⟩,⟨11,.phase⟩,⟨12,.phase⟩,⟨13,.phase⟩,⟨14,.phase⟩,⟨15,.phase⟩,⟨16,.phase⟩,⟨17,.phase⟩],none⟩) rfl rfl (by kernel_rfl) (fun K9 t=>?_);have aj:(qj wE lb (loff+kn*5) ⟨25,d1,d2,0,0⟩).cell? (Z R3 0)=some (sq rb roff n c2')∧(qj wE lb (loff+kn*5) ⟨25,d1,d2,0,0⟩).cell? (Z R3 1)=some (vi vals)∧(qj wE lb (loff+kn*5) ⟨25,d1,d2,0,0⟩).cell? (Z rb (roff+b*6+1))=some (sq lb loff ln lc6):=by
      have aN:rb≠lb:=fun e=>by have h1:=O.out;have h2:=aa.out;rw[e,h2] at h1;simp at h1
      refine⟨by simp[World.cell?,S7.out.b3],by have h9:=S7.out.b3;rw[K.out] at h9;simp[World.cell?,h9],?_⟩;rw[jf (XU wE lb _ _ aN)];exact lE
     refine Jy (w':=qj wE lb (loff+kn*5) ⟨25,d1,d2,0,0⟩) (kV rfl (by rfl) (by rfl) X) (t _ _ ⟨aj,?_⟩)
     (try simp only[Act.put])
     clear t hHeld aC X ak U hF' lE SE;refine wpAnyH_done (by kernel_rfl) ?_ _;try simp only[Exit.then]
     first | go_at_K | skip
     obtain⟨wF,hwF⟩:∃W,qj wE lb (loff+kn*5) ⟨25,d1,d2,0,0⟩=W:=⟨_,rfl⟩;rw[hwF] at S7 ⊢;clear hwF aj;have y0:wF.cell? (Z R2 0)=some (.slice none 0 0):=by simp[World.cell?,S7.out.b2]
     have y1:wF.cell? (Z R2 1)=some (vi 0):=by simp[World.cell?,S7.out.b2]
     have z0:wF.frozen? (Z R2 0)=false:=by simp[World.frozen?,S7.out.b2]
     have z1:wF.frozen? (Z R2 1)=false:=by simp[World.frozen?,S7.out.b2]
     have p0:wF.cell? (Z R3 0)=some (sq rb roff n c2'):=by simp[World.cell?,S7.out.b3]
     have p1:wF.cell? (Z R3 1)=some (vi vals):=by have h9:=S7.out.b3;rw[K.out] at h9;simp[World.cell?,h9]
     have G:((wF.setCell (Z R2 0) (sq rb roff n c2')).setCell (Z R2 1) (vi vals)).cell? (Z R2 0)=some (sq rb roff n c2'):=by simp[World.cell?,qI S7.out.b2]
     have H:((wF.setCell (Z R2 0) (sq rb roff n c2')).setCell (Z R2 1) (vi vals)).cell? (Z R2 1)=some (vi vals):=by simp[World.cell?,qI S7.out.b2]
     have B:Hid (qD C w (.returned (.agg #[sq rb roff n c2',vi vals])) ((wF.setCell (Z R2 0) (sq rb roff n c2')).setCell (Z R2 1) (vi vals))):=by
      have h9:=S7.out.finish ad.out;rw[K.out] at h9;exact h9
     go_wp2_with fail
     refine bodyPost_ret (v:=.agg #[sq rb roff n c2',vi vals]) (by simp[results,Tryz.results36,go_sem,G,H]) rfl ?_;exact B.out
   ·have aG:(kz == 0)=false:=by simpa using ao
    by_cases an:kz=1
    ·subst an;by_cases ag:ln=0
     ·subst ag;clear l6 hL6;have y0:w6.cell? (Z R2 0)=some (.slice none 0 0):=by simp[World.cell?,S6.out.b2]
      have y1:w6.cell? (Z R2 1)=some (vi 0):=by simp[World.cell?,S6.out.b2]
      have z0:w6.frozen? (Z R2 0)=false:=by simp[World.frozen?,S6.out.b2]
      have z1:w6.frozen? (Z R2 1)=false:=by simp[World.frozen?,S6.out.b2]
      have p0:w6.cell? (Z R3 0)=some (sq rb roff n c2'):=by simp[World.cell?,S6.out.b3]
      have p1:w6.cell? (Z R3 1)=some (vi vals):=by have h9:=S6.out.b3;rw[HV.out] at h9;simp[World.cell?,h9]
      have G:((w6.setCell (Z R2 0) (sq rb roff n c2')).setCell (Z R2 1) (vi vals)).cell? (Z R2 0)=some (sq rb roff n c2'):=by simp[World.cell?,qI S6.out.b2]
      have H:((w6.setCell (Z R2 0) (sq rb roff n c2')).setCell (Z R2 1) (vi vals)).cell? (Z R2 1)=some (vi vals):=by simp[World.cell?,qI S6.out.b2]
      have B:Hid (qD C w (.returned (.agg #[sq rb roff n c2',vi vals])) ((w6.setCell (Z R2 0) (sq rb roff n c2')).setCell (Z R2 1) (vi vals))):=by
       have h9:=S6.out.finish M.out;rw[HV.out] at h9;exact h9
      go_wp2_with fail
      refine bodyPost_ret (v:=.agg #[sq rb roff n c2',vi vals]) (by simp[results,Tryz.results36,go_sem,G,H]) rfl ?_;exact B.out
     ·have aJ:(0:Int)<(ln:Int):=by omega
      have c0:w6.cell? (Z R3 0)=some (sq rb roff n c2'):=by simp[World.cell?,S6.out.b3]
      obtain⟨lb,loff,elb,hlb,hit⟩:∃lb loff,ar=some (Z lb loff)∧own lb=(2,b,0)∧∀i z,x.list[i]?=some z→jU w6 lb (loff+i*5) z:=by
       obtain⟨a,c,e,_,hcc⟩:=hL6;obtain⟨lb,loff,ha,hb,hd⟩:=hcc (by have:=HLN.out;omega);simp at e;exact⟨lb,loff,e.1.trans ha,hb,hd⟩
      subst elb;have aF:ln≤lc6:=by
       obtain⟨b9,o9,e9,_,au,lc9,d1,d2⟩:=kE.get aB.out HX.out;simp at e9;obtain⟨rfl,rfl⟩:=e9;rw[l6,HLN.out] at d1;simp at d1;rw[d1.2];rw[HLN.out] at d2;exact d2
      have aK:(1:Int)≤(ln:Int):=by omega
      obtain⟨PP,hPP⟩:∃p,(if lc6=1 then some ((Z lb loff):Addr) else some (Z lb (loff+5)))=p:=⟨_,rfl⟩;have aD:0<ln-1→PP=some (Z lb (loff+5)):=fun h9=>by rw[←hPP,if_neg (by omega)]
      obtain⟨aO,lc6',l6',hL6'⟩:=L.out _ S6.out;rw[l6] at l6';simp at l6';obtain⟨e1,e2⟩:=l6';subst e1 e2;have ax:Hid (∀wr,Xh C R2 R3 w wr (sq rb roff n c2') own F→wr.cell? (Z rb (roff+b*6+1))=some (sq lb loff ln lc6)→∀p cq,(0<ln-1→p=some (Z lb (loff+5)))→kE (fun g=>own g=(2,b,0)) 5 (fun _=>jU) wr (.slice p (ln-1) cq) (x.list.drop 1)):=fun wr h hl p cq hp=>by
       obtain⟨au,lc9,l9,hL9⟩:=L.out _ h;rw[hl] at l9;simp at l9;obtain⟨e1,e2⟩:=l9;subst e1 e2;refine⟨p,cq,by rw[List.length_drop,HLN.out],by rw[List.length_drop];have:=hL9;obtain⟨_,_,_,hm,_⟩:=this;omega,fun h0=>?_⟩;rw[List.length_drop,HLN.out] at h0;obtain⟨a9,c9,e9,_,hc9⟩:=hL9;obtain⟨b9,o9,ha9,hb9,hi9⟩:=hc9 (by rw[HLN.out];omega);simp at e9;have ai:=e9.1.trans ha9;simp at ai;obtain⟨rfl,rfl⟩:=ai;refine⟨lb,loff+5,hp h0,hb9,fun i z hz=>?_⟩;rw[List.getElem?_drop] at hz;have h7:=hi9 (1+i) z hz;rw[show loff+5+i*5=loff+(1+i)*5 by omega];exact h7
      have aa:Hid (own lb=(2,b,0)):=hlb;have V:0<ln:=by omega
      have J:Hid (∀wr,Xh C R2 R3 w wr (sq rb roff n c2') own F→wr.cell? (Z rb (roff+b*6+1))=some (sq lb loff ln lc6)→wr.cell? (Z R3 0)=some (sq rb roff n c2')∧wr.cell? (Z R3 1)=some (vi vals)∧wr.cell? (Z rb (roff+b*6+1))=some (sq lb loff ln lc6)):=fun wr h hl=>
       ⟨by simp[World.cell?,h.b3],by have h9:=h.b3;rw[HV.out] at h9;simp[World.cell?,h9],hl⟩
      have aw:Hid (∀wr I,Xh C R2 R3 w wr (sq rb roff n c2') own F→Fr C wr I→wr.cell? (Z rb (roff+b*6+1))=some (sq lb loff ln lc6)→I.cell? (Z rb (roff+b*6+1))=some (sq lb loff ln lc6)):=fun wr I h hf hl=>by
       have h3:(own rb).1≤3:=by rw[O.out];simp
       exact(hf.cell (x:=(Z rb (roff+b*6+1))) (h.fn.high rb h3) (by show rb≠C;have:=h.fn.low rb h3;omega)).trans hl
      clear hL6 hlb hit hL6';go_wp2_with fail
      obtain⟨wB,hwB⟩:∃W,w6.drew=W:=⟨_,rfl⟩;have SB:Hid (Xh C R2 R3 w wB (sq rb roff n c2') own F):=by
       rw[←hwB];exact S6.out.draw ((Fr.refl C w6).drew) (S6.out.cur.later (Below.refl _ w6).drew)
      have lB:wB.cell? (Z rb (roff+b*6+1))=some (sq lb loff ln lc6):=by rw[←hwB];exact l6
      refine Y1 12 (fun w':World=>w'.cell? (Z R3 0)=some (sq rb roff n c2')∧w'.cell? (Z R3 1)=some (vi vals)∧w'.cell? (Z rb (roff+b*6+1))=some (sq lb loff ln lc6)) (by kernel_rfl) ?_;rw[hwB];clear hwB c0 l6 S6;have hHeld:=J.out _ SB.out lB;refine tkM 0 ⟨some 59,.fieldAddr 26 (.tmp 3) 0,0,"l10_plain.go:99",#[],none⟩ ?_ (fun w h=>?_) ?_;rotate_left
      ·(try dsimp only at h);go_simp;(try with_reducible rfl)
      try simp only[Act.put,sT,sZ,sS]
      refine tkM 1 ⟨some 60,.load 24 (.tmp 59),24,"l10_plain.go:99",#[⟨0,.data⟩],none⟩ ?_ (fun w h=>?_) ?_;rotate_left
      ·(try dsimp only at h);go_simp;(try with_reducible rfl)
      try simp only[Act.put,sT,sZ,sS]
      refine tkM 2 ⟨some 61,.move (.tmp 4),3,"l10_plain.go:99",#[],none⟩ ?_ (fun w h=>?_) ?_;rotate_left
      ·(try dsimp only at h);go_simp;(try with_reducible rfl)
      try simp only[Act.put,sT,sZ,sS]
      refine tkM 3 ⟨some 62,.fieldAddr 26 (.tmp 3) 0,0,"l10_plain.go:99",#[],none⟩ ?_ (fun w h=>?_) ?_;rotate_left
      ·(try dsimp only at h);go_simp;(try with_reducible rfl)
      try simp only[Act.put,sT,sZ,sS]
      refine tkM 4 ⟨some 63,.load 24 (.tmp 62),24,"l10_plain.go:99",#[⟨3,.data⟩],none⟩ ?_ (fun w h=>?_) ?_;rotate_left
      ·(try dsimp only at h);go_simp;(try with_reducible rfl)
      try simp only[Act.put,sT,sZ,sS]
      refine tkM 5 ⟨some 64,.move (.tmp 4),3,"l10_plain.go:99",#[],none⟩ ?_ (fun w h=>?_) ?_;rotate_left
      ·(try dsimp only at h);go_simp;(try with_reducible rfl)
      try simp only[Act.put,sT,sZ,sS]
      refine tkM 6 ⟨some 65,.indexAddr 24 (.tmp 63) (.tmp 64),0,"l10_plain.go:99",#[⟨4,.data⟩,⟨5,.data⟩],none⟩ ?_ (fun w h=>?_) ?_;rotate_left
      ·(try dsimp only at h);go_simp;(try with_reducible rfl)
      try simp only[Act.put,sT,sZ,sS]
      refine tkM 7 ⟨some 66,.fieldAddr 43 (.tmp 65) 1,0,"l10_plain.go:99",#[⟨6,.data⟩],none⟩ ?_ (fun w h=>?_) ?_;rotate_left
      ·(try dsimp only at h);go_simp;(try with_reducible rfl)
      try simp only[Act.put,sT,sZ,sS]
      refine tkM 8 ⟨some 67,.load 39 (.tmp 66),39,"l10_plain.go:99",#[⟨7,.data⟩],none⟩ ?_ (fun w h=>?_) ?_;rotate_left
      ·(try dsimp only at h);go_simp;(try with_reducible rfl)
      try simp only[Act.put,sT,sZ,sS]
      refine tkM 9 ⟨some 68,.slice 39 (.tmp 67) (some (.const (vi 1))) none none,39,"l10_plain.go:99",#[⟨8,.data⟩],none⟩ ?_ (fun w h=>?_) ?_;rotate_left
      ·(try dsimp only at h);go_simp;(try with_reducible rfl)
      try simp only[Act.put,sT,sZ,sS]
      refine kW (i:=10) (o:=⟨some 69,.indexAddr 24 (.tmp 60) (.tmp 61),0,"l10_plain.go:99",#[⟨1,.data⟩,⟨2,.data⟩,⟨0,.phase⟩,⟨1,.phase⟩,⟨2,.phase⟩,⟨3,.phase⟩,⟨4,.phase⟩,⟨5,.phase⟩,⟨6,.phase⟩,⟨7,.phase⟩,⟨8,.phase⟩,⟨9,.phase⟩],none⟩) rfl rfl (by kernel_rfl) (fun K9 t=>?_);refine jC (v:=.pointer (some (Z rb (roff+b*6)))) (w':=wB) (by first | (go_simp;done) | (go_simp;with_reducible rfl)) (t _ _ ⟨fun _=>hHeld,?_⟩)
      (try simp only[Act.put,sT,sZ,sS])
      clear t;refine tkM 11 ⟨some 70,.fieldAddr 43 (.tmp 69) 1,0,"l10_plain.go:99",#[⟨10,.data⟩,⟨0,.phase⟩,⟨1,.phase⟩,⟨2,.phase⟩,⟨3,.phase⟩,⟨4,.phase⟩,⟨5,.phase⟩,⟨6,.phase⟩,⟨7,.phase⟩,⟨8,.phase⟩,⟨9,.phase⟩],none⟩ ?_ (fun w h=>?_) ?_;rotate_left
      ·(try dsimp only at h);go_simp;(try with_reducible rfl)
      try simp only[Act.put,sT,sZ,sS]
      have ap:=ax.out _ SB.out lB PP (lc6-1) aD;obtain⟨F',hF',hv',hn'⟩:=SB.out.behead HX.out O.out ap;have K:Hid (F'.values=vals):=hv'.trans HV.out;have ad:Hid (0<F'.blocks.length):=by rw[hn'];exact M.out
      have S7:Hid (Xh C R2 R3 w (wB.setCell (Z rb (roff+b*6+1)) (.slice PP (ln-1) (lc6-1))) (sq rb roff n c2') own F'):=hF';have U:wB.frozen? (Z rb (roff+b*6+1))=false:=SB.out.fn.aaz rb (by rw[O.out];simp) _;refine kW (i:=12) (o:=⟨none,.store 39 (.tmp 70) (.tmp 68),0,"l10_plain.go:99",#[⟨11,.data⟩,⟨9,.data⟩,⟨0,.phase⟩,⟨1,.phase⟩,⟨2,.phase⟩,⟨3,.phase⟩,⟨4,.phase⟩,⟨5,.phase⟩,⟨6,.phase⟩,⟨7,.phase⟩,⟨8,.phase⟩,⟨9,.phase⟩],none⟩) rfl rfl (by kernel_rfl) (fun K9 t=>?_);refine Jy (w':=wB.setCell (Z rb (roff+b*6+1)) (.slice PP (ln-1) (lc6-1))) (by simp[execOp,go_sem,lB,U]) (t _ _ ⟨fun h=>absurd rfl h,?_⟩)
      (try simp only[Act.put])
      clear t hHeld U hF' lB SB ap;refine zq (by kernel_rfl) ?_ _;try simp only[Exit.then]
      first | go_at_K | skip
      obtain⟨wF,hwF⟩:∃W,wB.setCell (Z rb (roff+b*6+1)) (.slice PP (ln-1) (lc6-1))=W:=⟨_,rfl⟩;rw[hwF] at S7 ⊢;clear hwF;have y0:wF.cell? (Z R2 0)=some (.slice none 0 0):=by simp[World.cell?,S7.out.b2]
      have y1:wF.cell? (Z R2 1)=some (vi 0):=by simp[World.cell?,S7.out.b2]
      have z0:wF.frozen? (Z R2 0)=false:=by simp[World.frozen?,S7.out.b2]
      have z1:wF.frozen? (Z R2 1)=false:=by simp[World.frozen?,S7.out.b2]
      have p0:wF.cell? (Z R3 0)=some (sq rb roff n c2'):=by simp[World.cell?,S7.out.b3]
      have p1:wF.cell? (Z R3 1)=some (vi vals):=by have h9:=S7.out.b3;rw[K.out] at h9;simp[World.cell?,h9]
      have G:((wF.setCell (Z R2 0) (sq rb roff n c2')).setCell (Z R2 1) (vi vals)).cell? (Z R2 0)=some (sq rb roff n c2'):=by simp[World.cell?,qI S7.out.b2]
      have H:((wF.setCell (Z R2 0) (sq rb roff n c2')).setCell (Z R2 1) (vi vals)).cell? (Z R2 1)=some (vi vals):=by simp[World.cell?,qI S7.out.b2]
      have B:Hid (qD C w (.returned (.agg #[sq rb roff n c2',vi vals])) ((wF.setCell (Z R2 0) (sq rb roff n c2')).setCell (Z R2 1) (vi vals))):=by
       have h9:=S7.out.finish ad.out;rw[K.out] at h9;exact h9
      go_wp2_with fail
      refine bodyPost_ret (v:=.agg #[sq rb roff n c2',vi vals]) (by simp[results,Tryz.results36,go_sem,G,H]) rfl ?_;exact B.out
    ·have aH:(kz == 1)=false:=by simpa using an
     clear l6 hL6;have y0:w6.cell? (Z R2 0)=some (.slice none 0 0):=by simp[World.cell?,S6.out.b2]
     have y1:w6.cell? (Z R2 1)=some (vi 0):=by simp[World.cell?,S6.out.b2]
     have z0:w6.frozen? (Z R2 0)=false:=by simp[World.frozen?,S6.out.b2]
     have z1:w6.frozen? (Z R2 1)=false:=by simp[World.frozen?,S6.out.b2]
     have p0:w6.cell? (Z R3 0)=some (sq rb roff n c2'):=by simp[World.cell?,S6.out.b3]
     have p1:w6.cell? (Z R3 1)=some (vi vals):=by have h9:=S6.out.b3;rw[HV.out] at h9;simp[World.cell?,h9]
     have G:((w6.setCell (Z R2 0) (sq rb roff n c2')).setCell (Z R2 1) (vi vals)).cell? (Z R2 0)=some (sq rb roff n c2'):=by simp[World.cell?,qI S6.out.b2]
     have H:((w6.setCell (Z R2 0) (sq rb roff n c2')).setCell (Z R2 1) (vi vals)).cell? (Z R2 1)=some (vi vals):=by simp[World.cell?,qI S6.out.b2]
     have B:Hid (qD C w (.returned (.agg #[sq rb roff n c2',vi vals])) ((w6.setCell (Z R2 0) (sq rb roff n c2')).setCell (Z R2 1) (vi vals))):=by
      have h9:=S6.out.finish M.out;rw[HV.out] at h9;exact h9
     go_wp2_with fail
     refine bodyPost_ret (v:=.agg #[sq rb roff n c2',vi vals]) (by simp[results,Tryz.results36,go_sem,G,H]) rfl ?_;exact B.out
theorem big_anyL (a:Option Addr)(len cap:Nat)(w:World):Calls Tryz.prog 8 #[.slice a len cap] w fun e w'=>∃b:Bool,e=.returned (.bool b)∧w'=w:=by
 go_enter Tryz.func8,Tryz.ntmps8
 go_wp2;go_ret;exact⟨_,rfl,rfl⟩
theorem aiA {lo:Nat}{w:World}{v:Value}{F:FnD}{n:Nat}(h:qt lo w v F)(hn:F.blocks.length=n):∃ba bcap vals,v=.agg #[.slice ba n bcap,vi vals]:=by
 obtain⟨bv,rfl,a,cap,rfl,_,_⟩:=h;exact⟨a,cap,F.values,by rw[hn]⟩
def ahy (w:World)(e:Ending)(w':World):Prop := ∃(v:Value) (F:FnD),e=.returned v∧qt w.heap.size w' v F∧0<F.blocks.length∧F.blocks.length≤900∧Below w.heap.size w w'
theorem aiB {w w5:World}{R:Nat}{ba:Option Addr}{n bcap:Nat}{vals:Int}{F:FnD}(hR:R=w.heap.size)(x:w5.heap[R]?=some (.cells #[.slice none 0 0,vi 0] 26 (0,0)))(hF:qt (R+1) w5 (.agg #[.slice ba n bcap,vi vals]) F)(hB:Below w.heap.size w w5) :
  ((w5.setCell (Z R 0) (.slice ba n bcap)).setCell (Z R 1) (vi vals)).cell? (Z R 0)=some (.slice ba n bcap)∧((w5.setCell (Z R 0) (.slice ba n bcap)).setCell (Z R 1) (vi vals)).cell? (Z R 1)=some (vi vals) ∧
  qt w.heap.size ((w5.setCell (Z R 0) (.slice ba n bcap)).setCell (Z R 1) (vi vals)) (.agg #[.slice ba n bcap,vi vals]) F∧Below w.heap.size w ((w5.setCell (Z R 0) (.slice ba n bcap)).setCell (Z R 1) (vi vals)):=by
 have y0:w5.cell? (Z R 0)=some (.slice none 0 0):=by simp[World.cell?,x]
 have y1:w5.cell? (Z R 1)=some (vi 0):=by simp[World.cell?,x]
 refine⟨?_,World.cell?_setCell_same _ _ _ ((World.cell?_setCell_other _ _ _ _ (by simp)).trans y1),?_,?_⟩
 ·rw[World.cell?_setCell_other _ _ _ _ (by simp)];exact World.cell?_setCell_same _ _ _ y0
 ·exact qt.low (by omega) (hF.keep ((kM.setCell _ _ _ _ _ (by omega)).trans (kM.setCell _ _ _ _ _ (by omega))))
 ·exact(hB.setCell (p:=(Z R 0)) (by show w.heap.size≤R;omega) _).setCell (p:=(Z R 1)) (by show w.heap.size≤R;omega) _
theorem adj (a:Option Addr)(len cap:Nat)(zs:List Int)(w:World)(hr:Qf .u8 w a len cap zs) :
  Calls Tryz.prog 25 #[.slice a len cap] w fun e w'=>ahy w e w':=by
 have HR:Hid (Qf .u8 w a len cap zs):=hr;clear hr;go_enter Tryz.func25,Tryz.ntmps25
 go_wp2_with fail
 obtain⟨wA,hwA⟩:∃W,w.alloc (.cells #[.slice none 0 0,vi 0] 26)=W:=⟨_,rfl⟩;have bA:Below w.heap.size w wA:=by rw[←hwA];exact Bel.alloc _ _
 have xA:wA.heap[w.heap.size]?=some (.cells #[.slice none 0 0,vi 0] 26 (0,0)):=by rw[←hwA];exact World.alloc_heap_new _ _
 have sA:wA.heap.size=w.heap.size+1:=by rw[←hwA];simp
 try rw[hwA]
 clear hwA;obtain⟨R,hR⟩:∃x,w.heap.size=x:=⟨_,rfl⟩;rw[hR] at xA sA ⊢;refine(aiK a len cap zs _ (HR.out.keep (p:=w.heap.size) (fun x e c=>Nat.ne_of_lt (HR.out.lt x e c)) (Fr.xW bA))).mono ?_;rintro e w1 ⟨rfl,b1,hc1,_⟩;rw[sA] at b1 hc1 ⊢;have x1:w1.heap[R]?=some (.cells #[.slice none 0 0,vi 0] 26 (0,0)):=(b1.block _ (by omega)).trans xA;have X1:Hid (w1.heap[R]?=some (.cells #[.slice none 0 0,vi 0] 26 (0,0))):=x1;have B1:Hid (Below w.heap.size w w1):=bA.trans (b1.mono (by omega));have C1:Hid (Cur w1 (R+1)):=hc1;clear b1 hc1 x1 xA bA;go_wp2_with fail
 refine(ad9 (R+1) _ C1.out).mono ?_;rintro e w2 ⟨v,F,rfl,hF,hn0,hn9,b2,_⟩;obtain⟨n,hn⟩:∃n,F.blocks.length=n:=⟨_,rfl⟩;have HN:Hid (F.blocks.length=n):=hn;obtain⟨ba,bcap,vals,rfl⟩:=aiA hF hn;rw[hn] at hn0 hn9;have x2:w2.heap[R]?=some (.cells #[.slice none 0 0,vi 0] 26 (0,0)):=(b2.block _ (by omega)).trans X1.out;have B2:Below w.heap.size w w2:=B1.out.trans (b2.mono (by omega));have y0:w2.cell? (Z R 0)=some (.slice none 0 0):=by simp[World.cell?,x2]
 have y1:w2.cell? (Z R 1)=some (vi 0):=by simp[World.cell?,x2]
 have u0:w2.frozen? (Z R 0)=false:=by simp[World.frozen?,x2]
 have u1:w2.frozen? (Z R 1)=false:=by simp[World.frozen?,x2]
 obtain⟨r0,r1,hF6,hB6⟩:=aiB hR.symm x2 (qt.low (by omega) hF) B2;have r:Hid (qt w.heap.size ((w2.setCell (Z R 0) (.slice ba n bcap)).setCell (Z R 1) (vi vals)) (.agg #[.slice ba n bcap,vi vals]) F):=hF6;have h:Hid (Below w.heap.size w ((w2.setCell (Z R 0) (.slice ba n bcap)).setCell (Z R 1) (vi vals))):=hB6;clear hF6 hB6 hF x2 B2 b2 hn;go_wp2_with fail
 refine bodyPost_ret (v:=.agg #[.slice ba n bcap,vi vals]) (by simp[results,Tryz.results25,go_sem,r0,r1]) rfl ?_;exact⟨_,F,rfl,r.out,by rw[HN.out];exact hn0,by rw[HN.out];exact hn9,h.out⟩
theorem aib (a:Option Addr)(len cap:Nat)(zs:List Int)(w:World)(hr:Qf .u8 w a len cap zs) :
  Calls Tryz.prog 9 #[.slice a len cap] w fun e w'=>ahy w e w':=by
 have HR:Hid (Qf .u8 w a len cap zs):=hr;clear hr;go_enter Tryz.func9,Tryz.ntmps9
 go_wp2_with fail
 obtain⟨wA,hwA⟩:∃W,w.alloc (.cells #[.slice none 0 0,vi 0] 26)=W:=⟨_,rfl⟩;have bA:Below w.heap.size w wA:=by rw[←hwA];exact Bel.alloc _ _
 have xA:wA.heap[w.heap.size]?=some (.cells #[.slice none 0 0,vi 0] 26 (0,0)):=by rw[←hwA];exact World.alloc_heap_new _ _
 have sA:wA.heap.size=w.heap.size+1:=by rw[←hwA];simp
 try rw[hwA]
 clear hwA;obtain⟨R,hR⟩:∃x,w.heap.size=x:=⟨_,rfl⟩;rw[hR] at xA sA ⊢;refine(aiK a len cap zs _ (HR.out.keep (p:=w.heap.size) (fun x e c=>Nat.ne_of_lt (HR.out.lt x e c)) (Fr.xW bA))).mono ?_;rintro e w1 ⟨rfl,b1,hc1,_⟩;rw[sA] at b1 hc1 ⊢;have x1:w1.heap[R]?=some (.cells #[.slice none 0 0,vi 0] 26 (0,0)):=(b1.block _ (by omega)).trans xA;have X1:Hid (w1.heap[R]?=some (.cells #[.slice none 0 0,vi 0] 26 (0,0))):=x1;have B1:Hid (Below w.heap.size w w1):=bA.trans (b1.mono (by omega));have C1:Hid (Cur w1 (R+1)):=hc1;clear b1 hc1 x1 xA bA;go_wp2_with fail
 refine(ad9 (R+1) _ C1.out).mono ?_;rintro e w2 ⟨v,F,rfl,hF,hn0,hn9,b2,_⟩;obtain⟨n,hn⟩:∃n,F.blocks.length=n:=⟨_,rfl⟩;have HN:Hid (F.blocks.length=n):=hn;obtain⟨ba,bcap,vals,rfl⟩:=aiA hF hn;rw[hn] at hn0 hn9;have x2:w2.heap[R]?=some (.cells #[.slice none 0 0,vi 0] 26 (0,0)):=(b2.block _ (by omega)).trans X1.out;have B2:Below w.heap.size w w2:=B1.out.trans (b2.mono (by omega));have y0:w2.cell? (Z R 0)=some (.slice none 0 0):=by simp[World.cell?,x2]
 have y1:w2.cell? (Z R 1)=some (vi 0):=by simp[World.cell?,x2]
 have u0:w2.frozen? (Z R 0)=false:=by simp[World.frozen?,x2]
 have u1:w2.frozen? (Z R 1)=false:=by simp[World.frozen?,x2]
 obtain⟨r0,r1,hF6,hB6⟩:=aiB hR.symm x2 (qt.low (by omega) hF) B2;have r:Hid (qt w.heap.size ((w2.setCell (Z R 0) (.slice ba n bcap)).setCell (Z R 1) (vi vals)) (.agg #[.slice ba n bcap,vi vals]) F):=hF6;have h:Hid (Below w.heap.size w ((w2.setCell (Z R 0) (.slice ba n bcap)).setCell (Z R 1) (vi vals))):=hB6;clear hF6 hB6 hF x2 B2 b2 hn;go_wp2_with fail
 refine bodyPost_ret (v:=.agg #[.slice ba n bcap,vi vals]) (by simp[results,Tryz.results9,go_sem,r0,r1]) rfl ?_;exact⟨_,F,rfl,r.out,by rw[HN.out];exact hn0,by rw[HN.out];exact hn9,h.out⟩
end Go.Proofs.YtkbhbekfniadhaaGreat
