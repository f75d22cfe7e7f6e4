/- A drawn plain program, mostly: the model's l10DrawPlain. -/
import Derived.Test.YtkbhbekfniadhaaGreatTk0
import Derived.Test.YtkbhbekfniadhaaGreatKLow
import Derived.Test.YtkbhbekfniadhaaGreatKDrG
set_option maxRecDepth 100000
set_option maxHeartbeats 16000000
namespace Go.Proofs.YtkbhbekfniadhaaGreat
open Go.ChangeShapes Go.WideShapes Go.ChangeAt Go.RowKit
set_option linter.unusedVariables false
theorem afT {w:World}{lo:Nat}{v:Value}{n:Nat}(h:kL w lo v n):∃l:List jy,jz lo 2 qq w v l∧l.length≤1048576:=by
 obtain⟨l,hl⟩:=acT h;obtain⟨a,cap,e,_,h16,_⟩:=h;obtain⟨a2,c2,e2,_⟩:=id hl;rw[e] at e2;simp at e2;exact⟨l,hl,by omega⟩
theorem adi {w:World}{lo:Nat}{v:Value}{n:Nat}(h:ym w lo v n):∃l:List kS,jz lo 5 jU w v l∧l.length≤1048576:=by
 obtain⟨l,hl⟩:=Zr h;obtain⟨xs,h1,_,h24⟩:=h;obtain⟨a,cap,e,_⟩:=qo h1;obtain⟨a2,c2,e2,_⟩:=id hl;rw[e] at e2;simp at e2;exact⟨l,hl,by omega⟩
theorem afU {w:World}{lo:Nat}{v:Value}{n:Nat}(h:qJ w lo v n):∃l:List yy,jz lo 2 (yz lo) w v l∧l.length≤1048576∧∀p∈l,acu p:=by
 obtain⟨xs,h1,h2,h4⟩:=h;obtain⟨a,cap,rfl,hm,hc⟩:=qo h1;by_cases hp:0<n
 ·obtain⟨g,rfl,hlog,hcell⟩:=hc hp
  obtain⟨l,hl,hq⟩:=XN (α:=yy) (n:=n) (Q:=fun i x=>yz lo w g (0+i*2) x∧acu x) (fun i hi=>by
   obtain⟨d,av,al,e1,e2,e3⟩:=h2 i hi;obtain⟨la,hla,hsm⟩:=afT e3.1
   exact⟨⟨d,la⟩,⟨by rw[Nat.zero_add,hcell _ (by omega)];exact e1,av,by rw[Nat.zero_add,hcell _ (by omega)];exact e2,hla⟩,hsm⟩)
  refine⟨l,⟨_,cap,by rw[hl],by rw[hl];exact Nat.le_trans hm Kh,fun _=>⟨g,0,rfl,hlog,fun i x hx=>(hq i x hx).1⟩⟩,by omega,fun p r=>?_⟩;obtain⟨i,hi⟩:=List.getElem?_of_mem r;exact(hq i p hi).2
 ·have h0:n=0:=by omega
  subst h0;exact⟨[],⟨a,cap,rfl,by simp,fun hp=>absurd hp (by simp)⟩,by simp,fun p r=>by cases r⟩
theorem ae3 {w:World}{C lo G:Nat}{bv:Value}{bs:List Bk}{vals:Int}(h:jE w C lo G bv bs vals)(hb:bs.length≤900):∃F:FnD,qt lo w (.agg #[bv,vi vals]) F∧JR F∧F.blocks.length=bs.length:=by
 obtain⟨a,cap,rfl,hm,hc⟩:=qo h.row;by_cases hp:0<bs.length
 ·obtain⟨g,rfl,hlog,hcell⟩:=hc hp
  obtain⟨l,hl,hq⟩:=XN (α:=jc) (n:=bs.length) (Q:=fun i x=>qH lo w g (0+i*6) x∧X8 x) (fun i hi=>by
   have hb:bs[i]?=some bs[i]:=List.getElem?_eq_getElem hi;obtain⟨lp,hlp,s1,s2⟩:=afU (h.phi i _ hb);obtain⟨ll,hll,s3⟩:=adi (h.ins i _ hb);have c:∀j,j<6→w.cell? (Z g (0+i*6+j))=bs[i].cells[j]?:=fun j hj=>by
    rw[Nat.zero_add,hcell _ (by omega)];exact KF bs i j _ hb hj
   exact⟨⟨lp,ll,⟨bs[i].k,bs[i].a,bs[i].t,bs[i].e⟩⟩,⟨bs[i].pv,bs[i].lv,c 0 (by omega),c 1 (by omega),c 2 (by omega),c 3 (by omega),c 4 (by omega),c 5 (by omega),hlp,hll⟩,s1,s3,s2⟩)
  refine⟨⟨l,vals⟩,⟨_,rfl,_,cap,by rw[hl],by rw[hl];exact Nat.le_trans hm Kh,fun _=>⟨g,0,rfl,hlog,fun i x hx=>(hq i x hx).1⟩⟩,⟨by show l.length≤_;omega,fun x hx=>?_⟩,hl⟩;obtain⟨i,hi⟩:=List.getElem?_of_mem hx;exact(hq i x hi).2
 ·have h0:bs.length=0:=by omega
  rw[h0];exact⟨⟨[],vals⟩,⟨_,rfl,a,cap,rfl,by simp,fun hp=>absurd hp (by simp)⟩,⟨by simp,fun x hx=>by cases hx⟩,rfl⟩
theorem qI {w:World}{R:Nat}{a b:Value}{T:TypeId}(h:w.heap[R]?=some (.cells #[a,b] T (0,0)))(x y:Value):((w.setCell (Z R 0) x).setCell (Z R 1) y).heap[R]?=some (.cells #[x,y] T (0,0)):=by
 have h1:=heap_setCell_same w R 0 #[a,b] T x h;have h2:=heap_setCell_same (w.setCell (Z R 0) x) R 1 _ T y h1;exact h2
theorem ZT (w:World)(R:Nat)(x y:Value){g:Nat}(h:g≠R):((w.setCell (Z R 0) x).setCell (Z R 1) y).heap[g]?=w.heap[g]?:=by
 rw[Below.heap_setCell _ _ _ g h,Below.heap_setCell _ _ _ g h]
theorem ab3 (w:World)(R:Nat)(x y:Value):((w.setCell (Z R 0) x).setCell (Z R 1) y).heap.size=w.heap.size:=by simp[World.setCell]
theorem ae4 (F:FnD):(lowG F).blocks.length≤16:=by
 unfold lowG;split
 ·rename_i h
  exact h.2.2.2.1
 ·simp
structure PlSt (C R2 R3 R5:Nat)(w wr:World)(bv:Value)(own:k6)(G:FnD):Prop where
 cur:Cur wr C
 bel:Below C w wr
 b2:wr.heap[R2]?=some (.cells #[.slice none 0 0,vi 0] 26 (0,0))
 b3:∃a q c z,wr.heap[R3]?=some (.cells #[.slice a q c,vi z] 26 (0,0))
 b5:wr.heap[R5]?=some (.cells #[bv,vi G.values] 26 (0,0))
 fn:FnO w.heap.size own wr bv G.blocks
 cp:ab1 own wr bv G.blocks
 len:G.blocks.length≤16
 o2:3<(own R2).1
 o5:3<(own R5).1
 r2:C<R2∧R2<R3∧R3<R5∧w.heap.size≤R2
 kf:∀k c z,C<k→w.heap[k]?=some (.cells c 26 z)→wr.heap[k]?=some (.cells c 26 z)
def abr (C:Nat)(w:World)(e:Ending)(w':World):Prop :=
 ∃(bv:Value) (own:k6) (F:FnD),e=.returned (.agg #[bv,vi F.values])∧FnO w.heap.size own w' bv F.blocks∧ab1 own w' bv F.blocks∧F.blocks.length≤16∧Below C w w'∧Cur w' C∧w.heap.size≤w'.heap.size∧∀k c z,C<k→w.heap[k]?=some (.cells c 26 z)→w'.heap[k]?=some (.cells c 26 z)
theorem Ym {lo:Nat}{own:k6}{w:World}{bv:Value}{bs:List jc}(h:FnO lo own w bv bs){R:Nat}(hR:R<lo∨w.heap.size≤R):3<(own R).1:=Nat.lt_of_not_le (fun h9=>by
 have h1:=h.low R h9;have h2:=h.high R h9
 omega)
theorem FnO.isSlice {lo:Nat}{own:k6}{w:World}{bv:Value}{bs:List jc}(h:FnO lo own w bv bs):∃a c,bv=.slice a bs.length c:=h.rows.is
theorem FnO.boxed {lo:Nat}{own:k6}{w:World}{bv:Value}{bs:List jc}(h:FnO lo own w bv bs){R:Nat}(hR:3<(own R).1)(x y:Value):FnO lo own ((w.setCell (Z R 0) x).setCell (Z R 1) y) bv bs :=
 h.same (fun g hg=>ZT w R x y (fun e=>by rw[e] at hg;omega)) (by rw[ab3];exact Nat.le_refl _)
def PlR (C R2 R3 R5:Nat)(w:World)(ov kv:Value)(wr:World):Prop := ∃(k:Nat) (okb:Bool) (bv:Value) (own:k6) (G:FnD),k≤4∧kv=vi k∧ov=.bool okb∧PlSt C R2 R3 R5 w wr bv own G
theorem ab4 (C:Nat)(w:World)(hc:Cur w C):Calls Tryz.prog 62 #[.pointer (some (Z C 0))] w fun e w'=>abr C w e w':=by
 have HC:Hid (Cur w C):=hc;have an:C<w.heap.size:=hc.lt;clear hc;obtain⟨w1,hw1⟩:∃W,w.alloc (.cells #[.slice none 0 0,vi 0] 26)=W:=⟨_,rfl⟩;have b1:Below w.heap.size w w1:=by rw[←hw1];exact Bel.alloc _ _
 have X1:Hid (w1.heap[w.heap.size]?=some (.cells #[.slice none 0 0,vi 0] 26 (0,0))):=by rw[←hw1];exact World.alloc_heap_new _ _
 have aD:w1.heap.size=w.heap.size+1:=by rw[←hw1];simp
 have aq:Hid (Cur w1 C):=HC.out.later b1;have ar:Hid (∀k c z,C<k→w.heap[k]?=some (.cells c 26 z)→w1.heap[k]?=some (.cells c 26 z)):=fun k c z _ hk=>(b1.block k (aI hk).1).trans hk
 have B1:Hid (Below C w w1):=b1.mono (Nat.le_of_lt an);go_enter Tryz.func62,Tryz.ntmps62
 go_wp2_with fail
 try rw[hw1]
 clear hw1 b1;refine(Zq C _ aq.out).mono ?_;rintro e w2 ⟨G2,g2,cap2,bs2,vals2,rfl,hp2,h9002,hd2,hg2,b2,s2,k2⟩;obtain⟨F2,hF2,hsm2,_⟩:=ae3 hg2 h9002;have M:Hid (kJ w2 (.agg #[sq g2 0 bs2.length cap2,vi vals2]) F2):=qt.low (Nat.zero_le _) hF2;have r:Hid (JR F2):=hsm2;have C2:Hid (Cur w2 C):=hd2.cur;have B2:Hid (Below C w w2):=B1.out.trans b2;have U:Hid (∀k c z,C<k→w.heap[k]?=some (.cells c 26 z)→w2.heap[k]?=some (.cells c 26 z)):=fun k c z hk h=>k2 k c z hk (ar.out k c z hk h)
 have X2:Hid (w2.heap[w.heap.size]?=some (.cells #[.slice none 0 0,vi 0] 26 (0,0))):=k2 _ _ _ an X1.out;clear hd2 hg2 b2 k2 hF2 hsm2 hp2 h9002 X1 ar B1 aq;go_wp2_with fail
 refine(abA _ F2 _ M.out r.out).mono ?_;rintro e w3 ⟨aB,own3,rfl,fo3,b3⟩;obtain⟨F3,HF3⟩:∃z,Hid (JW F2=z):=⟨_,rfl⟩;rw[HF3.out] at fo3 ⊢;obtain⟨aL,HO3⟩:∃z,Hid (yq F2=z):=⟨_,rfl⟩;rw[HO3.out];obtain⟨a3,c3,rfl⟩:=fo3.isSlice;obtain⟨n3,HN3⟩:∃z,Hid (F3.blocks.length=z):=⟨_,rfl⟩;obtain⟨v3,HV3⟩:∃z,Hid (F3.values=z):=⟨_,rfl⟩;rw[HN3.out] at fo3 ⊢;rw[HV3.out];obtain⟨w4,hw4⟩:∃W,w3.alloc (.cells #[.slice a3 n3 c3,vi v3] 26)=W:=⟨_,rfl⟩;have b4:Below w3.heap.size w3 w4:=by rw[←hw4];exact Bel.alloc _ _
 have az:w4.heap.size=w3.heap.size+1:=by rw[←hw4];simp
 have X4:Hid (w4.heap[w3.heap.size]?=some (.cells #[.slice a3 n3 c3,vi v3] 26 (0,0))):=by rw[←hw4];exact World.alloc_heap_new _ _
 have X:Below w2.heap.size w2 w4:=Bel.after b3 b4;have ay:=b3.size;have aE:=s2;have O:Hid (kJ w4 (.agg #[.slice a3 n3 c3,vi v3]) F3):=qt.low (Nat.zero_le _) ((fo3.keep b4).fnAt HV3.out);have aF:w.heap.size+1≤w2.heap.size:=by omega
 have B4:Hid (Below C w w4):=B2.out.trans (X.mono (by omega));have C4:Hid (Cur w4 C):=C2.out.later X;have V:Hid (∀k c z,C<k→w.heap[k]?=some (.cells c 26 z)→w4.heap[k]?=some (.cells c 26 z)):=fun k c z hk h=>by
  have h9:=U.out k c z hk h;exact(X.block k (aI h9).1).trans h9
 have Y4:Hid (w4.heap[w.heap.size]?=some (.cells #[.slice none 0 0,vi 0] 26 (0,0))):=(X.block _ (by omega)).trans X2.out;have c0:w4.cell? (Z w3.heap.size 0)=some (.slice a3 n3 c3):=by simp[World.cell?,X4.out]
 have c1:w4.cell? (Z w3.heap.size 1)=some (vi v3):=by simp[World.cell?,X4.out]
 clear fo3 b3 X X2 U B2 C2 M r;go_wp2_with fail
 clear c0 c1;refine(abq _ F3 _ O.out).mono ?_;rintro e w5 ⟨aC,own5,rfl,fo5,cp5,b5⟩;obtain⟨G5,HG5⟩:∃z,Hid (lowG F3=z):=⟨_,rfl⟩;have ac:G5.blocks.length≤16:=by rw[←HG5.out];exact ae4 F3
 rw[HG5.out] at fo5 cp5 ⊢;obtain⟨aH,HO5⟩:∃z,Hid (ad7 F3=z):=⟨_,rfl⟩;rw[HO5.out];obtain⟨a5,c5,rfl⟩:=fo5.isSlice;obtain⟨n5,HN5⟩:∃z,Hid (G5.blocks.length=z):=⟨_,rfl⟩;rw[HN5.out] at fo5 cp5 ⊢;obtain⟨w6,hw6⟩:∃W,w5.alloc (.cells #[.slice a5 n5 c5,vi G5.values] 26)=W:=⟨_,rfl⟩;have b6:Below w5.heap.size w5 w6:=by rw[←hw6];exact Bel.alloc _ _
 have X6:w6.heap[w5.heap.size]?=some (.cells #[.slice a5 n5 c5,vi G5.values] 26 (0,0)):=by rw[←hw6];exact World.alloc_heap_new _ _
 have K:Below w4.heap.size w4 w6:=Bel.after b5 b6;have ao:=b5.size;have S6:Hid (PlSt C w.heap.size w3.heap.size w5.heap.size w w6 (.slice a5 n5 c5) own5 G5) :=
  ⟨C4.out.later K,B4.out.trans (K.mono (by omega)),(K.block _ (by omega)).trans Y4.out,⟨_,_,_,_,(K.block _ (by omega)).trans X4.out⟩,X6,(fo5.keep b6).low' (by omega),cp5.same (fun g hg=>b6.block g (fo5.high g (by rw[hg];simp))),ac,Ym fo5 (.inl (by omega)),Ym fo5 (.inr (Nat.le_refl _)),⟨an,by omega,by omega,Nat.le_refl _⟩,fun k c z hk h=>by
   have h9:=V.out k c z hk h
   exact(K.block k (aI h9).1).trans h9⟩
 obtain⟨R2,HR2⟩:∃z,Hid (w.heap.size=z):=⟨_,rfl⟩;obtain⟨R3,HR3⟩:∃z,Hid (w3.heap.size=z):=⟨_,rfl⟩;obtain⟨R5,HR5⟩:∃z,Hid (w5.heap.size=z):=⟨_,rfl⟩;rw[HR2.out,HR3.out,HR5.out] at S6;rw[HR2.out,HR3.out];clear fo5 b5 b6 K X6 X4 Y4 B4 C4 V O b4 hw4;go_wp2_with fail
 rw[HR5.out];clear hw6 ao az ay aE aD aF HR3 HR5;go_loopw [6,7] (fun ov kv wr=>PlR C R2 R3 R5 w ov kv wr) (fun _ kv _=>4-(intOf kv).toNat)
 case atStart=>exact⟨0,aH,_,_,_,by omega,rfl,rfl,S6.out⟩
 case round=>
  obtain⟨k,okb,bv,own,G,hk,rfl,rfl,hst⟩:=hrel;have ST:Hid (PlSt C R2 R3 R5 w wr bv own G):=hst;obtain⟨a5,c5,rfl⟩:=hst.fn.isSlice;obtain⟨n5,HN5⟩:∃z,Hid (G.blocks.length=z):=⟨_,rfl⟩;rw[HN5.out] at ST hst;have p0:wr.cell? (Z R5 0)=some (.slice a5 n5 c5):=by simp[World.cell?,hst.b5]
  have p1:wr.cell? (Z R5 1)=some (vi G.values):=by simp[World.cell?,hst.b5]
  have y0:wr.cell? (Z R2 0)=some (.slice none 0 0):=by simp[World.cell?,hst.b2]
  have y1:wr.cell? (Z R2 1)=some (vi 0):=by simp[World.cell?,hst.b2]
  have z0:wr.frozen? (Z R2 0)=false:=by simp[World.frozen?,hst.b2]
  have z1:wr.frozen? (Z R2 1)=false:=by simp[World.frozen?,hst.b2]
  have ah:((wr.setCell (Z R2 0) (.slice a5 n5 c5)).setCell (Z R2 1) (vi G.values)).cell? (Z R2 0)=some (.slice a5 n5 c5):=by simp[World.cell?,qI hst.b2]
  have ai:((wr.setCell (Z R2 0) (.slice a5 n5 c5)).setCell (Z R2 1) (vi G.values)).cell? (Z R2 1)=some (vi G.values):=by simp[World.cell?,qI hst.b2]
  have ae:Hid (abr C w (.returned (.agg #[.slice a5 n5 c5,vi G.values])) ((wr.setCell (Z R2 0) (.slice a5 n5 c5)).setCell (Z R2 1) (vi G.values))):=by
   obtain⟨r1,r2,r3,r4⟩:=hst.r2;refine⟨_,own,G,rfl,hst.fn.boxed hst.o2 _ _,hst.cp.same (fun g hg=>ZT _ _ _ _ (fun e=>by have h9:=hst.o2;rw[←e,hg] at h9;simp at h9)),hst.len,(hst.bel.setCell (p:=(Z R2 0)) (Nat.le_of_lt r1) _).setCell (p:=(Z R2 1)) (Nat.le_of_lt r1) _,?_,?_,fun k c z hk h=>?_⟩
   ·exact hst.cur.below r1 (((Below.refl R2 wr).setCell (p:=(Z R2 0)) (Nat.le_refl _) _).setCell (p:=(Z R2 1)) (Nat.le_refl _) _)
   ·rw[ab3];exact hst.bel.size
   ·rw[ZT _ _ _ _ (fun e=>by have:=(aI h).1;omega)];exact hst.kf k c z hk h
  clear hst S6;cases okb with
  | true=>
   by_cases h4:(k:Int)<4
   ·go_wp2_with fail
    refine bodyPost_ret (v:=.agg #[.slice a5 n5 c5,vi G.values]) (by simp[results,Tryz.results62,go_sem,ah,ai]) rfl ?_;exact ae.out
   ·go_wp2_with fail
    refine bodyPost_ret (v:=.agg #[.slice a5 n5 c5,vi G.values]) (by simp[results,Tryz.results62,go_sem,ah,ai]) rfl ?_;exact ae.out
  | false=>
   by_cases h4:(k:Int)<4
   ·clear p0 p1 y0 y1 z0 z1 ah ai ae;go_wp2_with fail
    refine(Zq C _ ST.out.cur).mono ?_;rintro e x2 ⟨aJ,g2',cap2',bs2',vals2',rfl,hp2,h9002,hd2,hg2,b2,s2',k2⟩;obtain⟨L,hF2,hsm2,_⟩:=ae3 hg2 h9002;have M:Hid (kJ x2 (.agg #[sq g2' 0 bs2'.length cap2',vi vals2']) L):=qt.low (Nat.zero_le _) hF2;have r:Hid (JR L):=hsm2;have C2:Hid (Cur x2 C):=hd2.cur;have B2:Hid (Below C w x2):=ST.out.bel.trans b2;obtain⟨ax,h22,h23,h24⟩:=ST.out.r2;have Y2:Hid (x2.heap[R2]?=some (.cells #[.slice none 0 0,vi 0] 26 (0,0))):=k2 _ _ _ ax ST.out.b2;obtain⟨ap,q3q,q3c,q3z,hq3⟩:=ST.out.b3;have au:Hid (x2.heap[R3]?=some (.cells #[.slice ap q3q q3c,vi q3z] 26 (0,0))):=k2 _ _ _ (by omega) hq3;have am:Hid (x2.heap[R5]?=some (.cells #[.slice a5 n5 c5,vi G.values] 26 (0,0))):=k2 _ _ _ (by omega) ST.out.b5;have U:Hid (∀k c z,C<k→w.heap[k]?=some (.cells c 26 z)→x2.heap[k]?=some (.cells c 26 z)):=fun k c z hk h=>k2 k c z hk (ST.out.kf k c z hk h)
    have aK:R5<x2.heap.size:=(aI am.out).1;clear hd2 hg2 b2 k2 hF2 hsm2 hp2 h9002 hq3 ST;go_wp2_with fail
    refine(abA _ L _ M.out r.out).mono ?_;rintro e x3 ⟨aB,own3',rfl,fo3,b3⟩;obtain⟨H,HF3'⟩:∃z,Hid (JW L=z):=⟨_,rfl⟩;rw[HF3'.out] at fo3 ⊢;obtain⟨aG,HO3'⟩:∃z,Hid (yq L=z):=⟨_,rfl⟩;rw[HO3'.out];obtain⟨ag,c3',rfl⟩:=fo3.isSlice;obtain⟨aj,HN3'⟩:∃z,Hid (H.blocks.length=z):=⟨_,rfl⟩;obtain⟨ak,HV3'⟩:∃z,Hid (H.values=z):=⟨_,rfl⟩;rw[HN3'.out] at fo3 ⊢;rw[HV3'.out];have ay:=b3.size;have I:Hid (x3.heap[R3]?=some (.cells #[.slice ap q3q q3c,vi q3z] 26 (0,0))):=(b3.block _ (by omega)).trans au.out;have p0:x3.cell? (Z R3 0)=some (.slice ap q3q q3c):=by simp[World.cell?,I.out]
    have p1:x3.cell? (Z R3 1)=some (vi q3z):=by simp[World.cell?,I.out]
    have z0:x3.frozen? (Z R3 0)=false:=by simp[World.frozen?,I.out]
    have z1:x3.frozen? (Z R3 1)=false:=by simp[World.frozen?,I.out]
    obtain⟨x4,hx4⟩:∃W,(x3.setCell (Z R3 0) (.slice ag aj c3')).setCell (Z R3 1) (vi ak)=W:=⟨_,rfl⟩;have af:Hid (x4.heap[R3]?=some (.cells #[.slice ag aj c3',vi ak] 26 (0,0))):=by rw[←hx4];exact qI I.out _ _
    have t:Hid (∀g,g≠R3→x4.heap[g]?=x3.heap[g]?):=fun g hg=>by rw[←hx4];exact ZT _ _ _ _ hg
    have az:x4.heap.size=x3.heap.size:=by rw[←hx4];exact ab3 _ _ _ _
    have aa:Hid (Below C x3 x4):=by rw[←hx4];exact((Below.refl C x3).setCell (p:=(Z R3 0)) (by show C≤R3;omega) _).setCell (p:=(Z R3 1)) (by show C≤R3;omega) _
    have ab:Hid (Cur x4 C):=by
     have h9:=C2.out.later b3;rw[←hx4];exact h9.below (lo:=R3) (by omega) (((Below.refl R3 x3).setCell (p:=(Z R3 0)) (Nat.le_refl _) _).setCell (p:=(Z R3 1)) (Nat.le_refl _) _)
    have O:Hid (kJ x4 (.agg #[.slice ag aj c3',vi ak]) H):=by
     rw[←hx4];exact qt.low (Nat.zero_le _) ((fo3.boxed (Ym fo3 (.inl (by omega))) _ _).fnAt HV3'.out)
    have B4:Hid (Below C w x4):=(B2.out.trans (b3.mono (by omega))).trans aa.out;have Y4:Hid (x4.heap[R2]?=some (.cells #[.slice none 0 0,vi 0] 26 (0,0))):=(t.out _ (by omega)).trans ((b3.block _ (by omega)).trans Y2.out);have aw:Hid (x4.heap[R5]?=some (.cells #[.slice a5 n5 c5,vi G.values] 26 (0,0))):=(t.out _ (by omega)).trans ((b3.block _ (by omega)).trans am.out);have V:Hid (∀k c z,C<k→w.heap[k]?=some (.cells c 26 z)→x4.heap[k]?=some (.cells c 26 z)):=fun k c z hk h=>by
     have h9:=U.out k c z hk h;have h8:=(aI h).1;exact(t.out k (by omega)).trans ((b3.block k (aI h9).1).trans h9)
    have c0:x4.cell? (Z R3 0)=some (.slice ag aj c3'):=by simp[World.cell?,af.out]
    have c1:x4.cell? (Z R3 1)=some (vi ak):=by simp[World.cell?,af.out]
    clear fo3 b3 Y2 au I am U B2 C2 M r t aa;go_wp2_with fail
    try rw[hx4]
    clear hx4 p0 p1 z0 z1 c0 c1;refine(abq _ H _ O.out).mono ?_;rintro e x5 ⟨aC,own5',rfl,fo5,cp5,b5⟩;obtain⟨G6,HG6⟩:∃z,Hid (lowG H=z):=⟨_,rfl⟩;have ad:G6.blocks.length≤16:=by rw[←HG6.out];exact ae4 H
    rw[HG6.out] at fo5 cp5 ⊢;obtain⟨aA,HO6⟩:∃z,Hid (ad7 H=z):=⟨_,rfl⟩;rw[HO6.out];obtain⟨a6,c6,rfl⟩:=fo5.isSlice;obtain⟨n6,HN6⟩:∃z,Hid (G6.blocks.length=z):=⟨_,rfl⟩;rw[HN6.out] at fo5 cp5 ⊢;have ao:=b5.size;have J:Hid (x5.heap[R5]?=some (.cells #[.slice a5 n5 c5,vi G.values] 26 (0,0))):=(b5.block _ (by omega)).trans aw.out;have p0:x5.cell? (Z R5 0)=some (.slice a5 n5 c5):=by simp[World.cell?,J.out]
    have p1:x5.cell? (Z R5 1)=some (vi G.values):=by simp[World.cell?,J.out]
    have z0:x5.frozen? (Z R5 0)=false:=by simp[World.frozen?,J.out]
    have z1:x5.frozen? (Z R5 1)=false:=by simp[World.frozen?,J.out]
    have HR:Hid (PlR C R2 R3 R5 w (.bool aA) (vi ((k:Int)+1)) ((x5.setCell (Z R5 0) (.slice a6 n6 c6)).setCell (Z R5 1) (vi G6.values))):=by
     have B:=fun g (hg:g≠R5)=>ZT x5 R5 (.slice a6 n6 c6) (vi G6.values) hg
     refine⟨k+1,aA,_,own5',G6,by omega,by simp,rfl,⟨?_,?_,?_,?_,qI J.out _ _,?_,cp5.same (fun g hg=>B g (fun e=>by have h9:=fo5.low g (by rw[hg];simp);omega)),ad,Ym fo5 (.inl (by omega)),Ym fo5 (.inl (by omega)),⟨ax,h22,h23,h24⟩,fun k c z hk h=>?_⟩⟩
     ·exact(ab.out.later b5).below (lo:=R5) (by omega) (((Below.refl R5 x5).setCell (p:=(Z R5 0)) (Nat.le_refl _) _).setCell (p:=(Z R5 1)) (Nat.le_refl _) _)
     ·exact((B4.out.trans (b5.mono (by omega))).setCell (p:=(Z R5 0)) (by show C≤R5;omega) _).setCell (p:=(Z R5 1)) (by show C≤R5;omega) _
     ·exact(B _ (by omega)).trans ((b5.block _ (by omega)).trans Y4.out)
     ·exact⟨_,_,_,_,(B _ (by omega)).trans ((b5.block _ (by omega)).trans af.out)⟩
     ·exact(fo5.boxed (Ym fo5 (.inl (by omega))) _ _).low' (by omega)
     ·have h9:=V.out k c z hk h;have h8:=(aI h).1;exact(B k (by omega)).trans ((b5.block k (aI h9).1).trans h9)
    clear fo5 b5 J aw af Y4 V B4 ab O ao;go_wp2_with fail
    go_roundw
    case rel=>
     first
      | exact HR.out
      | ((repeat apply Exists.intro);exact⟨HR.out,rfl⟩)
    case measure=>simp[intOf];omega
   ·go_wp2_with fail
    refine bodyPost_ret (v:=.agg #[.slice a5 n5 c5,vi G.values]) (by simp[results,Tryz.results62,go_sem,ah,ai]) rfl ?_;exact ae.out
end Go.Proofs.YtkbhbekfniadhaaGreat
