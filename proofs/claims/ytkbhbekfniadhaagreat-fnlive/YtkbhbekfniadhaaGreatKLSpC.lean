/- What is needed at the end of a block, and ahead of its end: the model's l11Out and l11End. What is needed ahead of a place of a block: the model's l11End and l11Before. -/
import Derived.Test.YtkbhbekfniadhaaGreatTk0
import Derived.Test.YtkbhbekfniadhaaGreatKBool
import Derived.Test.YtkbhbekfniadhaaGreatKSh8
set_option maxRecDepth 100000
set_option maxHeartbeats 4000000
namespace Go.Proofs.YtkbhbekfniadhaaGreat
open Go.ChangeShapes Go.WideShapes Go.ChangeAt Go.RowKit
set_option linter.unusedVariables false
def aaS (w:World)(g n V:Nat)(ls:Nat→List Int):Prop := ∀i,i<n→∃ua uc,w.cell? (Z g i)=some (.slice ua V uc)∧xU w (.slice ua V uc) (bitsOf V (ls i))
theorem aaS.keep {w w':World}{g n V:Nat}{ls:Nat→List Int}(h:aaS w g n V ls)(hb:Below w.heap.size w w'):aaS w' g n V ls:=fun i hi=>by
 obtain⟨ua,uc,h1,h2⟩:=h i hi;exact⟨ua,uc,Bel.keeps hb h1,h2.keep hb⟩
theorem xU.cell {w:World}{ua:Option Addr}{V uc:Nat}{l:List Bool}(h:xU w (.slice ua V uc) l)(hl:l.length=V){j:Nat}(hj:j<V):∃b off,ua=some (Z b off)∧w.cell? (Z b (off+j))=some (.bool (l.getD j false)):=by
 obtain⟨a,cap,e,hm,hc⟩:=h;obtain⟨b,off,rfl,hd⟩:=hc (by omega);simp at e;exact⟨b,off,e.1,hd j (by omega)⟩
structure JE (w0:World)(g:Nat)(w:World):Prop where
 size:w0.heap.size≤w.heap.size
 same:∀j,j<w0.heap.size→j≠g→w.heap[j]?=w0.heap[j]?
theorem JE.refl (w:World)(g:Nat):JE w g w:=⟨Nat.le_refl _,fun _ _ _=>rfl⟩
theorem JE.set {w0 w:World}{g:Nat}(h:JE w0 g w)(z:Nat)(v:Value):JE w0 g (w.setCell (Z g z) v):=by
 have hs:(w.setCell (Z g z) v).heap.size=w.heap.size:=by show(w.heap.modify _ _).size=_;simp
 exact⟨by rw[hs];exact h.size,fun j hj r=>(Below.heap_setCell _ _ _ j (by intro e;exact r e)).trans (h.same j hj r)⟩
theorem JE.cell {w0 w:World}{g:Nat}(h:JE w0 g w){p:Addr}{v:Value}(hp:p.block≠g)(hc:w0.cell? p=some v):w.cell? p=some v:=(World.cell?_of_block (h.same p.block (World.block_lt_of_cell? w0 p hc) hp)).trans hc
def zC (ls:Nat→List Int)(l:List Int):List Int:=l.flatMap (fun s=>ls s.toNat)
theorem ad5 {ls:Nat→List Int}{ss:List Int}{k:Nat}(h:k<ss.length):zC ls (ss.take (k+1))=zC ls (ss.take k) ++ ls (ss.getD k 0).toNat:=by
 unfold zC;rw[List.take_add_one,List.getElem?_eq_getElem h,List.getD_eq_getElem?_getD,List.getElem?_eq_getElem h,Option.toList_some,List.flatMap_append,List.flatMap_cons,List.flatMap_nil,List.append_nil]
 rfl
def OrUp (w1:World)(lo V g cap:Nat)(acc l:List Int)(v:Nat)(wr:World):Prop:=ji wr lo (sq g 0 V cap) (bitsOf V (acc ++ l.filter (fun z=>decide (z<(v:Int)))))∧Below lo w1 wr∧JE w1 g wr
theorem OrUp.put {w1:World}{lo V g cap:Nat}{acc l:List Int}{v:Nat}{wr:World}(h:OrUp w1 lo V g cap acc l v wr)(hlo:lo≤g)(hv:v<V){x:Bool}(hx:x=true↔(v:Int)∈acc∨(v:Int)∈l):OrUp w1 lo V g cap acc l (v+1) (wr.setCell (Z g v) (.bool x)):=by
 obtain⟨h1,h2,h3⟩:=h;refine⟨?_,h2.setCell (p:=(Z g v)) hlo _,h3.set _ _⟩;have:=h1.setAt hv x;rw[abD (m:=acc ++ l.filter (fun z=>decide (z<((v+1:Nat):Int)))) hv (fun j hj=>?_)] at this
 ·exact this
 ·rw[List.mem_append,List.mem_filter,List.mem_append,List.mem_filter];by_cases e:j=v
  ·subst e;rw[if_pos rfl,hx];constructor
   ·rintro(h | h)
    ·exact .inl h
    ·exact .inr h.1
   ·rintro(h | h)
    ·exact .inl h
    ·exact .inr ⟨h,by simp;omega⟩
  ·rw[if_neg e];have:((j:Int)<(v:Int))↔((j:Int)<((v+1:Nat):Int)):=by omega
   simp only[this,decide_eq_true_eq]
theorem afQ (v:Value)(F:FnD)(b n V:Nat)(mg mc:Nat)(ls:Nat→List Int)(w:World)(hF:kJ w v F)(hn:F.blocks.length=n)(hV:F.values=(V:Int))(hV8:V≤80)(hb:b<n)(hsu:∀s∈succsN F b,0≤s∧s<n)(hM:aaS w mg n V ls) :
  Calls Tryz.prog 96 #[v,vi b,sq mg 0 n mc] w fun e w'=>zV w V (yT F ls b) e w':=by
 have HF:Hid (kJ w v F):=hF;have HN:Hid (F.blocks.length=n):=hn;obtain⟨ba,bcap,rfl⟩:=hF.out hn hV;have aa:Hid (∀s∈succsN F b,0≤s∧s<n):=hsu;have HM:Hid (aaS w mg n V ls):=hM;have af:(b:Int)<(n:Int):=by omega
 clear hF hn hV hsu hM;obtain⟨wA,hwA⟩:∃wA,w.alloc (.cells #[.slice ba n bcap,vi V] 26)=wA:=⟨_,rfl⟩;have BA:Hid (Below w.heap.size w wA):=by rw[←hwA];exact Bel.alloc _ _
 have M:wA.heap.size=w.heap.size+1:=by rw[←hwA];simp
 have a0:wA.cell? (Z w.heap.size 0)=some (.slice ba n bcap):=by rw[←hwA];simp[go_sem]
 have a1:wA.cell? (Z w.heap.size 1)=some (vi V):=by rw[←hwA];simp[go_sem]
 have L:=Jf V (by omega) wA;obtain⟨wB,hwB⟩:∃wB,wA.alloc (.cells (madeCells #[.bool false] V) 4)=wB:=⟨_,rfl⟩;rw[hwB] at L;have BB:Hid (Below wA.heap.size wA wB):=by rw[←hwB];exact Bel.alloc _ _
 have ah:wB.heap.size=w.heap.size+2:=by rw[←hwB];simp;omega
 have OB:Hid (ji wB (w.heap.size+1) (sq wA.heap.size 0 V V) (bitsOf V [])):=by rw[←hwB];exact Qy V _ (by omega) wA (by omega)
 have FB:Hid (kJ wB (.agg #[.slice ba n bcap,vi V]) F):=(HF.out.later BA.out).later BB.out;have b0:=Bel.keeps BB.out a0;have b1:=Bel.keeps BB.out a1;rw[M] at L;rw[M] at OB;obtain⟨ss,HSS⟩:∃z,Hid (succsN F b=z):=⟨_,rfl⟩;obtain⟨sn,HSN⟩:∃z,Hid (ss.length=z):=⟨_,rfl⟩;go_enter Tryz.func96,Tryz.ntmps96
 go_wp2_with (first | (go_at_call 108;refine(zo _ F b wB FB.out (by rw[HN.out];exact hb)).mono ?_;rintro e wC ⟨sv,rfl,hO,bC⟩;rw[HSS.out] at hO;have OC:Hid (ja wC wB.heap.size sv ss):=hO;have BC:Hid (Below w.heap.size w wC):=Bel.after BA.out (Bel.after BB.out bC);have OR:Hid (ji wC (w.heap.size+1) (sq (w.heap.size+1) 0 V V) (bitsOf V [])):=OB.out.keep bC;have d0:=Bel.keeps bC b0;have d1:=Bel.keeps bC b1;have ai:=bC.size;obtain⟨sa,sc,rfl,hle,_⟩:=hO.at;rw[HSN.out] at hle;rw[HSN.out] at hO ⊢;rw[HSN.out] at OC;clear hO bC))
 have ae:∀q,q=w.heap.size+1→q<wC.heap.size:=fun q h=>by omega
 go_loopw [9] (fun i wr=>∃k:Nat,k≤sn∧i=vi k∧OrUp wC (w.heap.size+1) V (w.heap.size+1) V (zC ls (ss.take k)) [] 0 wr) (fun i _=>sn-(intOf i).toNat)
 case atStart=>exact⟨0,Nat.zero_le _,rfl,by simpa [zC] using OR.out,Below.refl _ _,JE.refl _ _⟩
 case round=>
  obtain⟨wq,hwq⟩:∃x,x=wr:=⟨_,rfl⟩;subst hwq;obtain⟨k,hk,rfl,hup⟩:=hrel;have UP:Hid (OrUp wC (w.heap.size+1) V (w.heap.size+1) V (zC ls (ss.take k)) [] 0 wq):=hup;clear hup;by_cases ag:(k:Int)<(sn:Int)
  ·have B:k<ss.length:=by have:=HSN.out;omega
   obtain⟨s,HS,hs⟩:∃s:Nat,Hid (ss.getD k 0=(s:Int))∧s<n:=by
    have h9:=aa.out (ss.getD k 0) (by rw[HSS.out,List.getD_eq_getElem?_getD,List.getElem?_eq_getElem B];exact List.getElem_mem B);have h8:ss.getD k 0=((ss.getD k 0).toNat:Int):=by omega
    exact⟨(ss.getD k 0).toNat,h8,by omega⟩
   have O:Hid (k<ss.length):=B;have G:k<sn:=by omega
   have U:Hid (k<sn):=G;clear G;obtain⟨ua,uc,hm1,hm2⟩:=(HM.out.keep BC.out) s hs;have X:Hid (xU wC (.slice ua V uc) (bitsOf V (ls s))):=hm2;have K:=OC.out.at
   obtain⟨nb,noff,hsa,hns⟩:∃nb noff,sa=some (Z nb noff)∧wC.cell? (Z nb (noff+k))=some (vi s):=by
    obtain⟨a',cap',e,_,hc⟩:=K;obtain⟨nb,noff,rfl,hc2⟩:=hc (by omega);simp at e;exact⟨nb,noff,e.1,by rw[hc2 k B,HS.out]⟩
   subst hsa;have ac:nb≠w.heap.size+1:=by have:=(OC.out.lt nb rfl).1;omega
   have ab:mg≠w.heap.size+1:=by
    obtain⟨_,_,h9,_⟩:=HM.out s hs;have:=World.block_lt_of_cell? w _ h9;dsimp only at this;omega
   have ad:(s:Int)<(n:Int):=by omega
   clear B hm2 K;go_wp2_with fail
   go_loopw [10] (fun i wr=>∃v:Nat,v≤V∧i=vi v∧OrUp wC (w.heap.size+1) V (w.heap.size+1) V (zC ls (ss.take k)) (ls s) v wr) (fun i _=>V-(intOf i).toNat)
   case atStart=>
    refine⟨0,Nat.zero_le _,rfl,?_,UP.out.2⟩;have h9:=UP.out.1;rw[y9 (m:=zC ls (ss.take k) ++ (ls s).filter (fun z=>decide (z<((0:Nat):Int)))) (fun j hj=>?_)] at h9
    ·exact h9
    ·simp;intro _ h8;omega
   case round=>
    obtain⟨wp,hwp⟩:∃x,x=wr:=⟨_,rfl⟩;subst hwp;obtain⟨z,hz,rfl,hup2⟩:=hrel;have H:Hid (OrUp wC (w.heap.size+1) V (w.heap.size+1) V (zC ls (ss.take k)) (ls s) z wp):=hup2;have g1:=hup2.2.2.cell (p:=(Z w.heap.size 1)) (by simp) d1;by_cases aj:(z:Int)<(V:Int)
    ·have r:z<V:=by omega
     obtain⟨ub,uoff,hua,hub⟩:=X.out.cell (xV _ _) r;rw[Qx _ r] at hub;obtain⟨t2,HT2⟩:∃t,Hid (decide ((z:Int)∈ls s)=t):=⟨_,rfl⟩;rw[HT2.out] at hub;have I:ub≠w.heap.size+1:=by
      obtain⟨_,_,h8,h9⟩:=HM.out s hs;obtain⟨ak,uc2,h7,_⟩:=(HM.out.keep BC.out) s hs;have h6:=Bel.keeps BC.out h8;rw[hm1] at h6;cases h6
      obtain⟨b5,o5,e5,c5⟩:=h9.cell (xV _ _) r;rw[hua] at e5;cases e5
      have:=World.block_lt_of_cell? w _ c5;dsimp only at this;omega
     have g2:=hup2.2.2.cell (p:=(Z nb (noff+k))) ac hns;have g3:=hup2.2.2.cell (p:=(Z mg s)) ab hm1;have g4:=hup2.2.2.cell (p:=(Z ub (uoff+z))) I hub;obtain⟨_,_,_,_,hcell,hfz⟩:=hup2.1.cells;have c1:=hcell z r;have c2:=hfz z;rw[Qx _ r] at c1;obtain⟨t1,HT1⟩:∃t,Hid (decide ((z:Int)∈zC ls (ss.take k) ++ (ls s).filter (fun y=>decide (y<(z:Int))))=t):=⟨_,rfl⟩;rw[HT1.out] at c1;subst hua;have hT:(t1 || t2)=true↔(z:Int)∈zC ls (ss.take k)∨(z:Int)∈ls s:=by
      rw[←HT1.out,←HT2.out];simp
     have J:Hid ((t1 || t2)=true↔(z:Int)∈zC ls (ss.take k)∨(z:Int)∈ls s):=hT;clear hup2 hcell hfz hT;cases t1
     ·go_wp2_with fail
      go_roundw
      case rel=>exact⟨z+1,by omega,by simp,H.out.put (by omega) r (by have:=J.out;simpa using this)⟩
      case measure=>simp[intOf];omega
     ·go_wp2_with fail
      go_roundw
      case rel=>exact⟨z+1,by omega,by simp,H.out.put (by omega) r (by have:=J.out;simpa using this)⟩
      case measure=>simp[intOf];omega
    ·obtain rfl:z=V:=by omega
     clear hup2;go_wp2_with fail
     go_roundw
     case rel=>
      refine⟨k+1,by omega,by simp,?_,H.out.2⟩;have h9:=H.out.1;rw[y9 (m:=zC ls (ss.take (k+1)) ++ List.filter (fun z=>decide (z<((0:Nat):Int))) []) (fun j hj=>?_)] at h9
      ·exact h9
      ·rw[ad5 O.out,HS.out,List.filter_nil,List.append_nil,List.mem_append,List.mem_append,List.mem_filter,Int.toNat_natCast];constructor
       ·rintro(h | h)
        ·exact .inl h
        ·exact .inr h.1
       ·rintro(h | h)
        ·exact .inl h
        ·exact .inr ⟨h,by simp;omega⟩
     case measure=>have:=U.out;simp[intOf];omega
  ·obtain rfl:k=sn:=by omega
   go_wp2_with fail
   go_ret;have h9:=UP.out.1;rw[List.take_of_length_le (by have:=HSN.out;omega),y9 (m:=yT F ls b) (fun j hj=>?_)] at h9
   ·exact⟨w.heap.size+1,V,rfl,h9.low (by omega),BC.out.trans (UP.out.2.1.mono (by omega))⟩
   ·rw[←HSS.out];unfold yT zC;rw[qM,List.filter_nil,List.append_nil];exact⟨fun h=>⟨h,by omega,by omega⟩,fun h=>h.1⟩
theorem afR (v:Value)(F:FnD)(b n V:Nat)(mg mc:Nat)(ls:Nat→List Int)(w:World)(hF:kJ w v F)(hn:F.blocks.length=n)(hV:F.values=(V:Int))(hV8:V≤80)(hb:b<n)(hsu:∀s∈succsN F b,0≤s∧s<n)(hM:aaS w mg n V ls)(x:jc)(hx:F.blocks[b]?=some x)(hu:∀z∈kT x.term.k x.term.a,0≤z∧z<V) :
  Calls Tryz.prog 77 #[v,vi b,sq mg 0 n mc] w fun e w'=>zV w V (endS x.term (yT F ls b)) e w':=by
 have HF:Hid (kJ w v F):=hF;have HN:Hid (F.blocks.length=n):=hn;have HV:Hid (F.values=(V:Int)):=hV;obtain⟨ba,bcap,rfl⟩:=hF.out hn hV;have B:Hid (∀s∈succsN F b,0≤s∧s<n):=hsu;have HM:Hid (aaS w mg n V ls):=hM;have HU:Hid (∀z∈kT x.term.k x.term.a,0≤z∧z<V):=hu;have HX:Hid (F.blocks[b]?=some x):=hx;have H:(b:Int)<(n:Int):=by omega
 obtain⟨bb,off,hba,pv,lv,t0,t1,t2,t3,t4,t5,hpv,hlv⟩:=kJ.yg hF hn hb hx;subst hba;clear hF hn hV hsu hM hu hx hpv hlv t0 t1;obtain⟨wA,hwA⟩:∃wA,w.alloc (.cells #[sq bb off n bcap,vi V] 26)=wA:=⟨_,rfl⟩;have BA:Hid (Below w.heap.size w wA):=by rw[←hwA];exact Bel.alloc _ _
 have G:wA.heap.size=w.heap.size+1:=by rw[←hwA];simp
 have a0:wA.cell? (Z w.heap.size 0)=some (sq bb off n bcap):=by rw[←hwA];simp[go_sem]
 have a1:wA.cell? (Z w.heap.size 1)=some (vi V):=by rw[←hwA];simp[go_sem]
 obtain⟨no,HNO⟩:∃z,Hid (yT F ls b=z):=⟨_,rfl⟩;obtain⟨us,HUS⟩:∃z,Hid (kT x.term.k x.term.a=z):=⟨_,rfl⟩;obtain⟨un,HUN⟩:∃z,Hid (us.length=z):=⟨_,rfl⟩;go_enter Tryz.func77,Tryz.ntmps77
 go_wp2_with (first | (go_at_call 96;refine(afQ _ F b n V mg mc ls wA (HF.out.later BA.out) HN.out HV.out hV8 hb B.out (HM.out.keep BA.out)).mono ?_;rintro e wC ⟨g,cap,rfl,hO,bC⟩;rw[HNO.out] at hO;have OC:Hid (ji wC (w.heap.size+1) (sq g 0 V cap) (bitsOf V no)):=(by rw[G] at hO;exact hO);have BC:Hid (Below w.heap.size w wC):=Bel.after BA.out bC;have d0:=Bel.keeps bC a0;have d2:=Bel.keeps BC.out t2;have d3:=Bel.keeps BC.out t3;have d4:=Bel.keeps BC.out t4;have d5:=Bel.keeps BC.out t5;have K:=bC.size;clear hO bC) | (go_at_call 97;refine(QZ _ _ _ _ wC).mono ?_;rintro e wF ⟨uv,kb,rfl,hkb,hR,bF⟩;rw[HUS.out] at hR;have RF:Hid (yI wF kb uv us):=hR;have OF:Hid (ji wF (w.heap.size+1) (sq g 0 V cap) (bitsOf V no)):=OC.out.keep bF;have BF:Hid (Below w.heap.size w wF):=Bel.after BC.out bF;obtain⟨rfl,hmx,hkl,_,_⟩:=hR;rw[HUN.out] at hmx ⊢;clear bF))
 have I:w.heap.size+1≤g∧g<wC.heap.size:=by
  obtain⟨_,h1,⟨cur,h2⟩,_⟩:=OC.out.cells;exact⟨h1,(aI h2).1⟩
 go_loopw [9] (fun i wr=>∃k:Nat,k≤un∧i=vi k∧Qz wF (w.heap.size+1) V g cap no us k wr) (fun i _=>un-(intOf i).toNat)
 case atStart=>exact⟨0,Nat.zero_le _,rfl,by rw[List.take_zero,List.append_nil];exact OF.out,Below.refl _ _,Nat.le_refl _,fun _ _ _=>rfl⟩
 case round=>
  obtain⟨wq,hwq⟩:∃x,x=wr:=⟨_,rfl⟩;subst hwq;obtain⟨k,hk,rfl,hup⟩:=hrel;have UP:Hid (Qz wF (w.heap.size+1) V g cap no us k wq):=hup;by_cases J:(k:Int)<(un:Int)
  ·have r:k<us.length:=by have:=HUN.out;omega
   obtain⟨z,HZ,hz⟩:∃z:Nat,Hid (us.getD k 0=(z:Int))∧z<V:=by
    have h9:=HU.out (us.getD k 0) (by rw[HUS.out,List.getD_eq_getElem?_getD,List.getElem?_eq_getElem r];exact List.getElem_mem r);have h8:us.getD k 0=((us.getD k 0).toNat:Int):=by omega
    exact⟨(us.getD k 0).toNat,h8,by omega⟩
   have c0:wq.cell? (Z kb k)=some (vi z):=by
    rw[World.cell?_of_block (w:=wF) (a:=(Z kb k)) (hup.2.2.2 kb (by omega) (by omega)),RF.out.2.2.2.1 k r,HZ.out]
   obtain⟨_,_,_,_,hcell,hfz⟩:=hup.1.cells;have c1:=hcell z hz;have c2:=hfz z;have L:(z:Int)<(V:Int):=by omega
   have t:Hid (k<us.length):=r;clear hup hcell hfz r;go_wp2_with fail
   go_roundw
   case rel=>exact⟨k+1,by omega,by simp,UP.out.put (by omega) hz t.out HZ.out⟩
   case measure=>simp[intOf];omega
  ·obtain rfl:k=un:=by omega
   clear hup;go_wp2_with fail
   go_ret;have h1:=UP.out.1;rw[List.take_of_length_le (by have:=HUN.out;omega),←HUS.out,←HNO.out,y9 (m:=endS x.term (yT F ls b)) (fun j hj=>by rw[endS,qM];exact⟨fun h=>⟨h,by omega,by omega⟩,fun h=>h.1⟩)] at h1;exact⟨g,cap,rfl,h1.low (by omega),BF.out.trans (UP.out.2.1.mono (by omega))⟩
theorem Xg (v:Value)(F:FnD)(b n V:Nat)(mg mc at0:Nat)(ls:Nat→List Int)(w:World)(hF:kJ w v F)(hn:F.blocks.length=n)(hV:F.values=(V:Int))(hV8:V≤80)(hb:b<n)(hsu:∀s∈succsN F b,0≤s∧s<n)(hM:aaS w mg n V ls)(x:jc)(hx:F.blocks[b]?=some x)(hu:∀z∈kT x.term.k x.term.a,0≤z∧z<V)
  (hus:∀y∈x.list,(∀z∈kK y.op y.a y.b,0≤z∧z<V)∧(jX y.op y.d = -1∨(0≤jX y.op y.d∧jX y.op y.d<V))) (hat:at0≤x.list.length) :
  Calls Tryz.prog 50 #[v,vi b,vi at0,sq mg 0 n mc] w fun e w'=>zV w V (atS x (yT F ls b) at0) e w':=by
 have HF:Hid (kJ w v F):=hF;have HN:Hid (F.blocks.length=n):=hn;have HV:Hid (F.values=(V:Int)):=hV;obtain⟨ba,bcap,rfl⟩:=hF.out hn hV;have I:Hid (∀s∈succsN F b,0≤s∧s<n):=hsu;have HM:Hid (aaS w mg n V ls):=hM;have HU:Hid (∀z∈kT x.term.k x.term.a,0≤z∧z<V):=hu;have J:Hid (∀y∈x.list,(∀z∈kK y.op y.a y.b,0≤z∧z<V)∧(jX y.op y.d = -1∨(0≤jX y.op y.d∧jX y.op y.d<V))):=hus;have HX:Hid (F.blocks[b]?=some x):=hx;have O:Hid (at0≤x.list.length):=hat;have U:(b:Int)<(n:Int):=by omega
 obtain⟨bb,off,hba,pv,lv,t0,t1,t2,t3,t4,t5,hpv,hlv⟩:=kJ.yg hF hn hb hx;subst hba;have H:Hid (jz 0 5 jU w lv x.list):=hlv;obtain⟨la,lcap,rfl,hlm,-⟩:=hlv;obtain⟨ln,HLN⟩:∃z,Hid (x.list.length=z):=⟨_,rfl⟩;rw[HLN.out] at t1 hlm hat;clear hF hn hV hsu hM hu hus hx hpv t0 t2 t3 t4 t5;obtain⟨wA,hwA⟩:∃wA,w.alloc (.cells #[sq bb off n bcap,vi V] 26)=wA:=⟨_,rfl⟩;have BA:Hid (Below w.heap.size w wA):=by rw[←hwA];exact Bel.alloc _ _
 have K:wA.heap.size=w.heap.size+1:=by rw[←hwA];simp
 have a0:wA.cell? (Z w.heap.size 0)=some (sq bb off n bcap):=by rw[←hwA];simp[go_sem]
 have a1:wA.cell? (Z w.heap.size 1)=some (vi V):=by rw[←hwA];simp[go_sem]
 go_enter Tryz.func50,Tryz.ntmps50
 go_wp2_with (go_at_call 77;refine(afR _ F b n V mg mc ls wA (HF.out.later BA.out) HN.out HV.out hV8 hb I.out (HM.out.keep BA.out) x HX.out HU.out).mono ?_;rintro e wC ⟨g,cap,rfl,hO,bC⟩;have OC:Hid (ji wC (w.heap.size+1) (sq g 0 V cap) (bitsOf V (endS x.term (yT F ls b)))):=(by rw[K] at hO;exact hO);have BC:Hid (Below w.heap.size w wC):=Bel.after BA.out bC;have B:Hid (Below wA.heap.size wA wC):=bC;have d0:=Bel.keeps bC a0;have d1:=Bel.keeps BC.out t1;clear hO bC)
 obtain⟨no,HNO⟩:∃z,Hid (yT F ls b=z):=⟨_,rfl⟩;rw[HNO.out] at OC;go_loopw [9,10] (fun lv i wr=>∃(m g cap:Nat),at0≤m∧m≤ln∧i=vi ((m:Int)-1)∧lv=sq g 0 V cap∧ji wr (w.heap.size+1) (sq g 0 V cap) (bitsOf V (atS x no m))∧Below wC.heap.size wC wr) (fun _ i _=>(intOf i+1).toNat)
 case atStart=>exact⟨ln,g,cap,hat,Nat.le_refl _,rfl,rfl,by rw[←HLN.out,ahi];exact OC.out,Below.refl _ _⟩
 case round=>
  obtain⟨wq,hwq⟩:∃x,x=wr:=⟨_,rfl⟩;subst hwq;obtain⟨m,gq,capq,hm1,hm2,rfl,rfl,hO,hB⟩:=hrel;have OQ:Hid (ji wq (w.heap.size+1) (sq gq 0 V capq) (bitsOf V (atS x no m))):=hO;have BQ:Hid (Below wC.heap.size wC wq):=hB;have f0:=Bel.keeps hB d0;have f1:=Bel.keeps hB d1;clear hO hB;by_cases ab:at0<m
  ·obtain⟨j,rfl⟩:∃j,m=j+1:=⟨m-1,by omega⟩;rw[show((j+1:Nat):Int)-1=(j:Int) by omega];have r:j<x.list.length:=by have:=HLN.out;omega
   obtain⟨y,HY⟩:∃y,Hid (x.list[j]?=some y):=⟨x.list[j],List.getElem?_eq_getElem r⟩;have h:=kN (kN H.out (kM.jK BC.out 0)) (kM.jK BQ.out 0);rw[HLN.out] at h;obtain⟨lb,loff,hla,e0,e1,e2,e3,e4⟩:=yh h HY.out;subst hla;obtain⟨y0,y1,y2,y3,y4⟩:=y;dsimp only at e0 e1 e2 e3 e4;have X:(at0:Int)≤(j:Int):=by omega
   have aa:(j:Int)<(ln:Int):=by omega
   obtain⟨t,hy2⟩:=J.out _ (List.mem_of_getElem? HY.out);have G:Hid (Calls Tryz.prog 78 #[.agg #[vi y0,vi y1,vi y2,vi y3,vi y4],sq gq 0 V capq] wq fun e w'=>zV wq V (Q8 ⟨y0,y1,y2,y3,y4⟩ (atS x no (j+1))) e w'):=adE y0 y1 y2 y3 y4 _ V capq _ wq OQ.out.at hV8 hy2 t;have M:=BQ.out.size;have L:=BC.out.size;clear h r t hy2;go_wp2_with (go_at_call 78;refine G.out.mono ?_;rintro e w2 ⟨g2,cap2,rfl,hO2,b2⟩)
   go_roundw
   case rel=>exact⟨j,g2,cap2,by omega,by omega,rfl,rfl,by rw[abY HY.out];exact hO2.low (by have:=BC.out.size;have:=B.out.size;omega),Bel.after BQ.out b2⟩
   case measure=>simp[intOf]
  ·obtain rfl:m=at0:=by omega
   have ac:¬((m:Int)-1≥(m:Int)):=by omega
   go_wp2_with fail
   go_ret;rw[HNO.out];exact⟨gq,capq,rfl,OQ.out.low (by omega),Bel.after BC.out BQ.out⟩
end Go.Proofs.YtkbhbekfniadhaaGreat
