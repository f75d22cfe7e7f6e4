/- How many are needed at once: the model's Busy. How many are needed at once: the program's Busy. -/
import Derived.Test.YtkbhbekfniadhaaGreatTkK
import Derived.Test.YtkbhbekfniadhaaGreatTk0
import Derived.Test.YtkbhbekfniadhaaGreatKLPl
set_option maxRecDepth 100000
set_option maxHeartbeats 16000000
namespace Go.Proofs.YtkbhbekfniadhaaGreat
open Go.ChangeShapes Go.WideShapes Go.ChangeAt Go.RowKit Go.Shelf
set_option linter.unusedVariables false
noncomputable def lenAt (F:FnD)(b j:Nat):Nat:=match F.blocks[b]? with
 | some x=>(atS x (yT F (qz F) b) j).length
 | none=>0
def ZJ (F:FnD)(b:Nat):Nat:=match F.blocks[b]? with
 | some x=>x.list.length
 | none=>0
theorem abW {F:FnD}{b:Nat}{x:jc}(h:F.blocks[b]?=some x)(j:Nat):lenAt F b j=(atS x (yT F (qz F) b) j).length:=by unfold lenAt;rw[h]
theorem XQ {F:FnD}{b:Nat}{x:jc}(h:F.blocks[b]?=some x):ZJ F b=x.list.length:=by unfold ZJ;rw[h]
theorem aeS (F:FnD)(b j:Nat):lenAt F b j≤80:=by
 unfold lenAt;split
 ·exact ahj _ _ _
 ·omega
def Top (F:FnD)(P:Nat→Nat→Prop)(M:Nat):Prop:=(∀b j,P b j→lenAt F b j≤M)∧(M=0∨∃b j,P b j∧M=lenAt F b j)
theorem Top.uniq {F:FnD}{P:Nat→Nat→Prop}{M N:Nat}(h:Top F P M)(k:Top F P N):M=N:=by
 have a:M≤N:=by
  rcases h.2 with h2 | ⟨b,j,h1,h2⟩
  ·omega
  ·rw[h2];exact k.1 b j h1
 have b:N≤M:=by
  rcases k.2 with h2 | ⟨b,j,h1,h2⟩
  ·omega
  ·rw[h2];exact h.1 b j h1
 omega
theorem Top.congr {F:FnD}{P P':Nat→Nat→Prop}{M:Nat}(h:Top F P M)(e:∀b j,P b j↔P' b j):Top F P' M :=
 ⟨fun b j hp=>h.1 b j ((e b j).2 hp),h.2.imp id (fun⟨b,j,h1,h2⟩=>⟨b,j,(e b j).1 h1,h2⟩)⟩
theorem Top.add {F:FnD}{P P':Nat→Nat→Prop}{M b0 j0:Nat}(h:Top F P M)(e:∀b j,P' b j↔P b j∨(b=b0∧j=j0)):Top F P' (max M (lenAt F b0 j0)):=by
 refine⟨fun b j hp=>?_,?_⟩
 ·rcases(e b j).1 hp with hp | ⟨rfl,rfl⟩
  ·have:=h.1 b j hp;omega
  ·omega
 ·by_cases hc:M≤lenAt F b0 j0
  ·exact .inr ⟨b0,j0,(e _ _).2 (.inr ⟨rfl,rfl⟩),by omega⟩
  ·rcases h.2 with h2 | ⟨b,j,h1,h2⟩
   ·omega
   ·exact .inr ⟨b,j,(e _ _).2 (.inl h1),by omega⟩
def qy (F:FnD)(k:Nat)(b j:Nat):Prop:=b<k∧j≤ZJ F b
def Kl (F:FnD)(k i:Nat)(b j:Nat):Prop:=qy F k b j∨(b=k∧j<i)
theorem abX (F:FnD):Top F (qy F 0) 0:=⟨fun b j h=>absurd h.1 (by omega),.inl rfl⟩
def abk (F:FnD)(M:Int):Prop:=(¬qg F∧M = -1)∨(qg F∧∃m:Nat,M=(m:Int)∧Top F (qy F F.blocks.length) m)
theorem abk.uniq {F:FnD}{M N:Int}(h:abk F M)(k:abk F N):M=N:=by
 rcases h with ⟨h1,h2⟩ | ⟨h1,m,h2,h3⟩ <;> rcases k with ⟨k1,k2⟩ | ⟨k1,l,k2,k3⟩
 ·omega
 ·exact absurd k1 h1
 ·exact absurd h1 k1
 ·have:=h3.uniq k3;omega
open Classical in
noncomputable def Km (F:FnD):Int:=if h:∃M,abk F M then h.choose else 0
theorem z7 {F:FnD}{M:Int}(h:abk F M):Km F=M:=by
 have he:∃M,abk F M:=⟨M,h⟩;unfold Km;rw[dif_pos he];exact he.choose_spec.uniq h
def aeT (w:World)(x:Int)(e:Ending)(w':World):Prop:=e=.returned (vi x)∧Below w.heap.size w w'
theorem ahd (x y:Int)(w:World):Calls Tryz.prog 54 #[vi x,vi y] w fun e w'=>e=.returned (vi (max x y))∧w'=w:=by
 by_cases h:x > y
 ·rw[show max x y=x by omega];go_enter Tryz.func54,Tryz.ntmps54
  go_wp2;go_ret;exact⟨rfl,rfl⟩
 ·rw[show max x y=y by omega];go_enter Tryz.func54,Tryz.ntmps54
  go_wp2;go_ret;exact⟨rfl,rfl⟩
theorem ahe (v:Value)(F:FnD)(w:World)(hF:kJ w v F) :
  Calls Tryz.prog 26 #[v] w fun e w'=>aeT w (Km F) e w':=by
 have HF:Hid (kJ w v F):=hF;obtain⟨n,HN⟩:∃n,Hid (F.blocks.length=n):=⟨_,rfl⟩;obtain⟨vals,HV⟩:∃x,Hid (F.values=x):=⟨_,rfl⟩;obtain⟨ba,bcap,rfl⟩:=hF.out HN.out HV.out;have hmost:n≤9223372036854775807:=by rw[←HN.out];exact hF.most
 clear hF;obtain⟨wA,hwA⟩:∃wA,w.alloc (.cells #[.slice ba n bcap,vi vals] 26)=wA:=⟨_,rfl⟩;have BA:Hid (Below w.heap.size w wA):=by rw[←hwA];exact Bel.alloc _ _
 have a0:wA.cell? (Z w.heap.size 0)=some (.slice ba n bcap):=by rw[←hwA];simp[go_sem]
 have a1:wA.cell? (Z w.heap.size 1)=some (vi vals):=by rw[←hwA];simp[go_sem]
 go_enter Tryz.func26,Tryz.ntmps26
 go_wp2_with fail
 refine(Yw _ F _ (HF.out.later BA.out)).mono ?_;rintro e w2 ⟨s,rfl,hs,b2⟩;have HS:Hid (s=true↔qg F):=hs;have B2:Hid (Below w.heap.size w w2):=Bel.after BA.out b2;have c0:=Bel.keeps b2 a0;have c1:=Bel.keeps b2 a1;clear hs b2 a0 a1 hwA BA;cases s
 ·have HE:Hid (Km F = -1):=z7 (.inl ⟨fun h=>(by have:=HS.out.2 h;cases this),rfl⟩);go_wp2_with fail
  go_ret;rw[HE.out];exact⟨rfl,B2.out⟩
 ·have hp:qg F:=HS.out.1 rfl;have HP:Hid (qg F):=hp;obtain⟨n',V,hv⟩:=ZR hp;have en:n'=n:=hv.len.symm.trans HN.out;subst en;have HPV:Hid (Je F n' V):=hv;have h1:=hv.n1;have h16:=hv.n16;have hV8:=hv.v80;clear hp hv;go_wp2_with fail
  refine(ahv _ F n' V _ (HF.out.later B2.out) HPV.out).mono ?_;rintro e w3 ⟨mg,mc,rfl,hm,b3⟩;have HM:Hid (abp w3 w2.heap.size mg n' V (qz F)):=hm;have B3:Hid (Below w.heap.size w w3):=Bel.after B2.out b3;have d0:=Bel.keeps b3 c0;have d1:=Bel.keeps b3 c1;have HF3:Hid (kJ w3 (.agg #[.slice ba n' bcap,vi vals]) F):=HF.out.later B3.out;clear hm b3 c0 c1;go_wp2_with fail
  go_loopw [4,5] (fun mv i wr=>∃(M k:Nat),k≤n'∧i=vi k∧mv=vi M∧Top F (qy F k) M∧Below w3.heap.size w3 wr) (fun _ i _=>n'-(intOf i).toNat)
  case atStart=>exact⟨0,0,Nat.zero_le _,rfl,rfl,abX F,Below.refl _ _⟩
  case round=>
   obtain⟨wq,hwq⟩:∃x,x=wr:=⟨_,rfl⟩;subst hwq;obtain⟨M,k,hk,rfl,rfl,htop,hbq⟩:=hrel;have HT:Hid (Top F (qy F k) M):=htop;have BQ:Hid (Below w3.heap.size w3 wq):=hbq;have f0:=Bel.keeps hbq d0;have f1:=Bel.keeps hbq d1;clear htop hbq;by_cases hlt:(k:Int)<(n':Int)
   ·have hkn:k<n':=by omega
    have hcl:k<F.blocks.length:=by rw[HN.out];exact hkn
    obtain⟨x,HX⟩:∃x,Hid (F.blocks[k]?=some x):=⟨F.blocks[k],List.getElem?_eq_getElem hcl⟩;obtain⟨bb,off,hba,pv,lv,t0,t1,t2,t3,t4,t5,hpv,hlv⟩:=kJ.yg HF3.out HN.out hkn HX.out;subst hba;obtain⟨la,lcap,rfl,hlm,-⟩:=hlv;obtain⟨ln,HLN⟩:∃z,Hid (x.list.length=z):=⟨_,rfl⟩;rw[HLN.out] at t1 hlm;have hl24:ln≤24:=by rw[←HLN.out];exact(HP.out.1.2.2.2.2 k x HX.out).2.1
    have HT1:Hid (w3.cell? (Z bb (off+k*6+1))=some (.slice la ln lcap)):=t1;clear t0 t1 t2 t3 t4 t5 hpv hcl;go_wp2_with fail
    go_loopw [4,6] (fun mv i wr=>∃(M j:Nat),j≤ln+1∧i=vi j∧mv=vi M∧Top F (Kl F k j) M∧Below w3.heap.size w3 wr) (fun _ i _=>ln+1-(intOf i).toNat)
    case atStart=>exact⟨M,0,Nat.zero_le _,rfl,rfl,HT.out.congr (fun b j=>⟨fun h=>.inl h,fun h=>h.elim id (fun h=>absurd h.2 (by omega))⟩),BQ.out⟩
    case round=>
     obtain⟨wx,hwx⟩:∃x,x=wr:=⟨_,rfl⟩;subst hwx;obtain⟨M',j,hj,rfl,rfl,htop,hbx⟩:=hrel;have HT2:Hid (Top F (Kl F k j) M'):=htop;have BX:Hid (Below w3.heap.size w3 wx):=hbx;have g0:=Bel.keeps hbx d0;have g1:=Bel.keeps hbx d1;have g2:=Bel.keeps hbx HT1.out;clear htop hbx;by_cases hlj:(j:Int)≤(ln:Int)
     ·have hjl:j≤x.list.length:=by have:=HLN.out;omega
      go_wp2_with fail
      refine(Xg _ F k n' V mg mc j (qz F) wx (HF3.out.later BX.out) HN.out HPV.out.vals hV8 hkn (HPV.out.su k) (HM.out.keep BX.out).at x HX.out (HPV.out.ends k x HX.out) (HPV.out.uses k x HX.out) hjl).mono ?_;rintro e w6 ⟨g6,cap6,rfl,ho6,b6⟩;have B6:Hid (Below w3.heap.size w3 w6):=Bel.after BX.out b6;have O6:Hid (ji w6 wx.heap.size (.slice (some (Z g6 0)) V cap6) (bitsOf V (atS x (yT F (qz F) k) j))):=ho6;clear ho6 b6;go_wp2_with fail
      refine(ad3 _ V cap6 _ w6 O6.out.at hV8).mono ?_;rintro e w7 ⟨r,rfl,hr,b7⟩;have B7:Hid (Below w3.heap.size w3 w7):=Bel.after B6.out b7;rw[upL_eq (V:=V) (l:=atS x (yT F (qz F) k) j) (ZK _ _ _).1 (ZK _ _ _).2 (HPV.out.atV HX.out (outV (F:=F) (liveV HPV.out) k) j)] at hr;obtain⟨nk,HNK⟩:∃z,Hid (lenAt F k j=z):=⟨_,rfl⟩;have hnk80:nk≤80:=by rw[←HNK.out];exact aeS F k j
      obtain⟨na,nc,rfl⟩:∃a c,r=.slice a nk c:=by
       have e0:(atS x (yT F (qz F) k) j).length=nk:=(abW HX.out j).symm.trans HNK.out;rcases hr.shape with ⟨e,e2⟩ | ⟨g,cap,e⟩
       ·exact⟨none,0,by rw[e,←e0,e2];rfl⟩
       ·exact⟨_,_,by rw[e,e0]⟩
      clear hr b7;go_wp2_with fail
      refine(ahd _ _ w7).mono ?_;rintro e w8 ⟨rfl,rfl⟩;rw[show max (M':Int) (nk:Int)=((max M' nk:Nat):Int) by omega];have HT3:Hid (Top F (Kl F k (j+1)) (max M' nk)):=by
       rw[←HNK.out]
       exact HT2.out.add (fun b i=>⟨fun h=>h.elim (fun h=>.inl (.inl h)) (fun h=>by
        by_cases e:i=j
        ·exact .inr ⟨h.1,e⟩
        ·exact .inl (.inr ⟨h.1,by omega⟩)),fun h=>h.elim (fun h=>h.elim .inl (fun h=>.inr ⟨h.1,by omega⟩)) (fun h=>.inr ⟨h.1,by omega⟩)⟩)
      go_wp2_with fail
      go_roundw
      case rel=>exact⟨max M' nk,j+1,by omega,by simp,rfl,HT3.out,B7.out⟩
      case measure=>simp[intOf];omega
     ·have ej:ln+1=j:=by omega
      subst ej
      have HT3:Hid (Top F (qy F (k+1)) M'):=HT2.out.congr (fun b i=>by
       have hpl:ZJ F k=ln:=(XQ HX.out).trans HLN.out;unfold Kl qy;constructor
       ·rintro(h | h)
        ·exact⟨by omega,h.2⟩
        ·obtain⟨rfl,h⟩:=h;exact⟨by omega,by omega⟩
       ·intro h;by_cases e:b=k
        ·subst e;exact .inr ⟨rfl,by omega⟩
        ·exact .inl ⟨by omega,h.2⟩)
      go_wp2_with fail
      go_roundw
      case rel=>exact⟨M',k+1,by omega,by simp,rfl,HT3.out,BX.out⟩
      case measure=>simp[intOf];omega
   ·have ekn:n'=k:=by omega
    subst ekn;have HE:Hid (Km F=(M:Int)):=z7 (.inr ⟨HP.out,M,rfl,by rw[HN.out];exact HT.out⟩);go_wp2_with fail
    go_ret;rw[HE.out];exact⟨rfl,B3.out.trans (BQ.out.mono B3.out.size)⟩
end Go.Proofs.YtkbhbekfniadhaaGreat
namespace Go.Proofs.YtkbhbekfniadhaaGreat
open Go.ChangeShapes Go.WideShapes Go.ChangeAt Go.RowKit Go.Shelf
set_option linter.unusedVariables false
attribute [local go_sem] Oper.semAt_some
def marksOf (Ds:List Nat):List Deferred:=Ds.map (fun D=>{ target:=.collected D,args := #[] })
structure Qo (lo:Nat)(w:World)(Ds:List Nat):Prop where
 nd:Ds.Nodup
 each:∀D∈Ds,lo≤D∧w.heap[D]?=some (.deferred (some []))
theorem Qo.same {lo:Nat}{w w':World}{Ds:List Nat}(h:Qo lo w Ds)(hf:∀D∈Ds,w'.heap[D]?=w.heap[D]?):Qo lo w' Ds :=
 ⟨h.nd,fun D hD=>⟨(h.each D hD).1,(hf D hD).trans (h.each D hD).2⟩⟩
theorem Qo.lt {lo:Nat}{w:World}{Ds:List Nat}(h:Qo lo w Ds){D:Nat}(hD:D∈Ds):D<w.heap.size:=(aI (h.each D hD).2).1
theorem Yk {F:Fence}{n:Nat}{P:Program}{fn:Func}{tmps:Array Value}{R:Ending→World→Prop}{lo:Nat}:∀(Ds:List Nat) (w:World),Qo lo w Ds →
  (∀w',Below lo w w'→(∀k,k<lo→w'.heap[k]?=w.heap[k]?)→LeavesIn F n P fn tmps R [] .returning w')→lo≤w.heap.size→LeavesInM F n P fn tmps R (marksOf Ds) .returning w
 | [],w,_,h,hl=>h w (Below.refl _ _) (fun _ _=>rfl)
 | D::Ds,w,hm,h,hl=>by
  have hD:=hm.each D (by simp);have hput:∀k,k≠D→(w.putObj D (.deferred none)).heap[k]?=w.heap[k]?:=fun k hk=>World.putObj_heap_other (by omega)
  have hbel:Below lo w (w.putObj D (.deferred none)):=⟨rfl,rfl,rfl,by simp[World.putObj],fun k hk=>hput k (by have:=hD.1;omega)⟩;refine⟨by simp,.inl ⟨_,_,rfl,run_takeDeferred hD.2,?_⟩⟩;refine Yk Ds _ ⟨(List.nodup_cons.1 hm.nd).2,fun E hE=>⟨(hm.each E (by simp[hE])).1,?_⟩⟩ (fun w' hb hk=>h w' (hbel.trans hb) (fun k hk2=>(hk k hk2).trans (hput k (by omega)))) ?_
  ·rw[hput E (fun e=>(List.nodup_cons.1 hm.nd).1 (e▸hE))];exact(hm.each E (by simp[hE])).2
  ·have:=hbel.size;omega
structure BzI (w w4:World)(X lo:Nat)(Ds:List Nat)(M:Nat)(U:World):Prop where
 box:U.heap[X]?=some (.cells #[vi M] 3 (0,0))
 same:∀k,k<w4.heap.size→k≠X→U.heap[k]?=w4.heap[k]?
 bel:Below w.heap.size w U
 size:w4.heap.size≤U.heap.size
 marks:Qo w4.heap.size U Ds
 room:lo≤U.heap.size
theorem BzI.below {w w4 U U':World}{X lo M B:Nat}{Ds:List Nat}(h:BzI w w4 X lo Ds M U)(hb:Below B U U')(hB:w4.heap.size≤B)(hX:X<w4.heap.size)(hw:w.heap.size≤w4.heap.size)(hD:∀D∈Ds,D<B):BzI w w4 X lo Ds M U' :=
 ⟨(hb.block _ (by omega)).trans h.box,fun k hk hne=>(hb.block k (by omega)).trans (h.same k hk hne),h.bel.trans (hb.mono (by omega)),Nat.le_trans h.size hb.size,h.marks.same (fun D hm=>hb.block D (hD D hm)),Nat.le_trans h.room hb.size⟩
theorem BzI.put {w w4 U:World}{X lo M:Nat}{Ds:List Nat}(h:BzI w w4 X lo Ds M U)(hX:X<w4.heap.size)(hw:w.heap.size≤X)(M':Nat):BzI w w4 X lo Ds M' (U.setCell (Z X 0) (vi M')):=by
 refine⟨?_,fun k hk hne=>(Below.heap_setCell _ _ _ k hne).trans (h.same k hk hne),h.bel.setCell (p:=(Z X 0)) hw _,by simpa using h.size,h.marks.same (fun D hm=>Below.heap_setCell _ _ _ D (by have:=(h.marks.each D hm).1;show D≠X;omega)),by simpa using h.room⟩;obtain⟨hlt,hk⟩:=aI h.box;show(U.heap.modify X _)[X]?=_;rw[Array.getElem?_eq_getElem (by rw[Array.size_modify];exact hlt),Array.getElem_modify_self,hk]
 rfl
theorem adY {w:World}{x:Nat}{a:Value}{t:TypeId}(h:w.heap[x]?=some (.cells #[a] t (0,0))):w.cell? (Z x 0)=some a∧w.frozen? (Z x 0)=false:=⟨by simp[World.cell?,h],by simp[World.frozen?,h]⟩
theorem Q5 {w:World}{lo:Nat}{v:Value}{l:List Int}(h:ja w lo v l):∃a m c,v=.slice a m c:=by
 rcases h.2 with ⟨h0,_⟩ | ⟨g9,c9,cur,hv,_⟩
 ·exact⟨_,_,_,h0⟩
 ·exact⟨_,_,_,hv⟩
def Q6 (M:Nat)(l:List (Int × Value)):Nat:=(l.map (fun y=>ahc y.2)).foldl max M
theorem afF (M:Nat)(l:List (Int × Value))(y:Int × Value):Q6 M (l ++ [y])=max (Q6 M l) (ahc y.2):=by simp[Q6]
theorem aeU {F:FnD}{k M:Nat}{x:jc}(hx:F.blocks[k]?=some x)(h:Top F (qy F k) M):∀c,c≤x.list.length+1→Top F (fun b j=>qy F k b j∨(b=k∧x.list.length<j+c∧j≤x.list.length)) (((qZ x (yT F (qz F) k) c).map (fun p=>p.2)).foldl max M)
 | 0,_=>h.congr (fun b j=>⟨.inl,fun h=>h.elim id (fun h=>absurd h.2 (by omega))⟩)
 | c+1,hc=>by
  rw[Q9,List.map_append,List.foldl_append];simp only[List.map_cons,List.map_nil,List.foldl_cons,List.foldl_nil];rw[←abW hx];refine(aeU hx h c (by omega)).add (fun b j=>⟨?_,?_⟩)
  ·rintro(h1 | ⟨h1,h2,h3⟩)
   ·exact .inl (.inl h1)
   ·by_cases e:j=x.list.length-c
    ·exact .inr ⟨h1,e⟩
    ·exact .inl (.inr ⟨h1,by omega,h3⟩)
  ·rintro((h1 | ⟨h1,h2,h3⟩) | ⟨h1,h2⟩)
   ·exact .inl h1
   ·exact .inr ⟨h1,by omega,h3⟩
   ·exact .inr ⟨h1,by omega,by omega⟩
theorem ahf {F:FnD}{k M:Nat}{x:jc}(hx:F.blocks[k]?=some x)(h:Top F (qy F k) M){ys:List (Int × Value)}(hy:ys.map (fun y=>(y.1,ahc y.2))=qZ x (yT F (qz F) k) (x.list.length+1)):Top F (qy F (k+1)) (Q6 M ys):=by
 have e:Q6 M ys=((qZ x (yT F (qz F) k) (x.list.length+1)).map (fun p=>p.2)).foldl max M:=by
  rw[←hy,List.map_map]
  rfl
 rw[e];refine(aeU hx h _ (Nat.le_refl _)).congr (fun b j=>?_);have hpl:=XQ hx;unfold qy;constructor
 ·rintro(h1 | ⟨rfl,h2,h3⟩)
  ·exact⟨by omega,h1.2⟩
  ·exact⟨by omega,by omega⟩
 ·intro h1;by_cases e:b=k
  ·subst e;exact .inr ⟨rfl,by omega,by omega⟩
  ·exact .inl ⟨by omega,h1.2⟩
theorem ahg (v:Value)(F:FnD)(w:World)(hF:kJ w v F) :
  Calls Tryz.prog 21 #[v] w fun e w'=>aeT w (Km F) e w':=by
 have HF:Hid (kJ w v F):=hF;obtain⟨n,HN⟩:∃n,Hid (F.blocks.length=n):=⟨_,rfl⟩;obtain⟨vals,HV⟩:∃x,Hid (F.values=x):=⟨_,rfl⟩;obtain⟨ba,bcap,rfl⟩:=hF.out HN.out HV.out;have hmost:n≤9223372036854775807:=by rw[←HN.out];exact hF.most
 clear hF;obtain⟨wA,hwA⟩:∃wA,w.alloc (.cells #[.slice ba n bcap,vi vals] 26)=wA:=⟨_,rfl⟩;have BA:Hid (Below w.heap.size w wA):=by rw[←hwA];exact Bel.alloc _ _
 have hsA:wA.heap.size=w.heap.size+1:=by rw[←hwA];simp
 have a0:wA.cell? (Z w.heap.size 0)=some (.slice ba n bcap):=by rw[←hwA];simp[go_sem]
 have a1:wA.cell? (Z w.heap.size 1)=some (vi vals):=by rw[←hwA];simp[go_sem]
 refine(callsIn_wide (n:=6)).1 ?_;refine callsIn_of_wp_marks Tryz.func21 rfl trivial ?_ rfl;simp only[Tryz.ntmps21,List.size_toArray,List.length_cons,List.length_nil,Nat.reduceAdd,Nat.reduceSub,Array.replicate_succ,Array.replicate_zero,List.push_toArray,List.append_toArray,List.nil_append,List.cons_append]
 gi_wp2_with fail
 try rw[hwA]
 refine⟨trivial,(callsIn_wide.2 (Yx _ F _ (HF.out.later BA.out))).mono ?_⟩;rintro e w2 ⟨s,rfl,hs,b2⟩;have HS:Hid (s=true↔qg F):=hs;have B2:Hid (Below w.heap.size w w2):=Bel.after BA.out b2;have c0:=Bel.keeps b2 a0;have c1:=Bel.keeps b2 a1;have hs2:w.heap.size+1≤w2.heap.size:=by have:=b2.size;omega
 clear hs b2 a0 a1 hwA BA hsA;cases s
 ·have HE:Hid (Km F = -1):=z7 (.inl ⟨fun h=>(by have:=HS.out.2 h;cases this),rfl⟩)
  gi_wp2
  refine⟨_,results_tmp rfl _ _ _,?_,B2.out⟩;rw[HE.out]
  rfl
 ·have hp:qg F:=HS.out.1 rfl;have HP:Hid (qg F):=hp;obtain⟨n',V,hv⟩:=ZR hp;have en:n'=n:=hv.len.symm.trans HN.out;subst en;have HPV:Hid (Je F n' V):=hv;have h1:=hv.n1;have h16:=hv.n16;clear hp hv;have e0:=Bel.keeps (Bel.alloc w2 (.cells #[vi 0] 3)) c0;have e1:=Bel.keeps (Bel.alloc w2 (.cells #[vi 0] 3)) c1
  gi_wp2_with fail
  obtain⟨wB,hwB⟩:∃wB,w2.alloc (.cells #[vi 0] 3)=wB:=⟨_,rfl⟩;have BB:Hid (Below w2.heap.size w2 wB):=by rw[←hwB];exact Bel.alloc _ _
  have hsB:wB.heap.size=w2.heap.size+1:=by rw[←hwB];simp
  have XB:Hid (wB.heap[w2.heap.size]?=some (.cells #[vi 0] 3 (0,0))):=by rw[←hwB];exact World.alloc_heap_new w2 _
  rw[hwB] at e0 e1;rw[hwB];refine⟨trivial,(callsIn_wide.2 (ZQ _ F wB (HF.out.later (Bel.after B2.out BB.out)) n' HN.out h1 h16 HPV.out.takes HPV.out.su)).mono ?_⟩;rintro e w3 ⟨gI,gO,us,vs,rfl,hne,b3⟩;have B3:Hid (Below w.heap.size w w3):=Bel.after (Bel.after B2.out BB.out) b3;have HNE3:Hid (jA w3 wB.heap.size gI gO n' us vs (qz F) (yT F (qz F))):=hne;have X3:Hid (w3.heap[w2.heap.size]?=some (.cells #[vi 0] 3 (0,0))):=(b3.block _ (by omega)).trans XB.out;have hs3:wB.heap.size≤w3.heap.size:=b3.size;replace e0:=Bel.keeps b3 e0;replace e1:=Bel.keeps b3 e1;have f0:=Bel.keeps (Bel.alloc w3 (.cells #[.slice (some (Z gI 0)) n' n',.slice (some (Z gO 0)) n' n'] 63)) e0;have f1:=Bel.keeps (Bel.alloc w3 (.cells #[.slice (some (Z gI 0)) n' n',.slice (some (Z gO 0)) n' n'] 63)) e1;clear hwB
  gi_wp2_with fail
  obtain⟨w4,hw4⟩:∃w4,w3.alloc (.cells #[.slice (some (Z gI 0)) n' n',.slice (some (Z gO 0)) n' n'] 63)=w4:=⟨_,rfl⟩;have B34:Hid (Below w3.heap.size w3 w4):=by rw[←hw4];exact Bel.alloc _ _
  have hs4:w4.heap.size=w3.heap.size+1:=by rw[←hw4];simp
  have N4:Hid (w4.heap[w3.heap.size]?=some (.cells #[.slice (some (Z gI 0)) n' n',.slice (some (Z gO 0)) n' n'] 63 (0,0))):=by rw[←hw4];exact World.alloc_heap_new w3 _
  have B4:Hid (Below w.heap.size w w4):=Bel.after B3.out B34.out;have HNE:Hid (jA w4 wB.heap.size gI gO n' us vs (qz F) (yT F (qz F))):=HNE3.out.keep B34.out;have X4:Hid (w4.heap[w2.heap.size]?=some (.cells #[vi 0] 3 (0,0))):=(B34.out.block _ (by omega)).trans X3.out;rw[hw4] at f0 f1;have hX4:w2.heap.size<w4.heap.size:=by omega
  have hw24:w.heap.size≤w2.heap.size:=by omega
  clear hne b3 c0 c1 e0 e1 HNE3 X3 XB;rw[hw4];clear hw4;refine wpIn_loop (fun a W=>∃(k M:Nat) (Ds:List Nat) (x5 x6 x18 x19 x20 x21 x22 x23 x24 x25 x26 x27 x28 x36:Value),k≤n'∧a = { tmps := #[.agg #[.slice ba n' bcap,vi vals],.pointer (some (Z w.heap.size 0)),vi 0,.pointer (some (Z w2.heap.size 0)),.pointer (some (Z w3.heap.size 0)),x5,x6,undef,undef,.agg #[.slice ba n' bcap,vi vals],.bool true,.bool false,.agg #[.slice ba n' bcap,vi vals],.agg #[.slice (some (Z gI 0)) n' n',.slice (some (Z gO 0)) n' n'],.pointer (some (Z w.heap.size 0)),.slice ba n' bcap,vi n',vi k,x18,x19,x20,x21,x22,x23,x24,x25,x26,x27,x28,undef,undef,undef,undef,undef,undef,undef,x36,undef],defers:=marksOf Ds }∧BzI w w4 w2.heap.size 0 Ds M W∧Top F (qy F k) M) (fun a _=>n'-(intOf (a.eval (.tmp 17))).toNat) ?_ ?_
  ·exact⟨0,0,[],undef,undef,undef,undef,undef,undef,undef,undef,undef,undef,undef,undef,undef,undef,Nat.zero_le _,rfl,⟨X4.out,fun _ _ _=>rfl,B4.out,Nat.le_refl _,⟨List.nodup_nil,by simp⟩,Nat.zero_le _⟩,abX F⟩
  rintro a W ⟨k,M,Ds,x5,x6,x18,x19,x20,x21,x22,x23,x24,x25,x26,x27,x28,x36,hk,rfl,hI,hT⟩;have HI:Hid (BzI w w4 w2.heap.size 0 Ds M W):=hI;have HT:Hid (Top F (qy F k) M):=hT;obtain⟨y0,y1⟩:=adY hI.box;have g0:W.cell? (Z w.heap.size 0)=some (.slice ba n' bcap):=(World.cell?_of_block (w:=w4) (a:=(Z w.heap.size 0)) (hI.same w.heap.size (by omega) (by omega))).trans f0;have hsW:=hI.size;clear hI hT;by_cases hlt:(k:Int)<(n':Int)
  ·have hkn:k<n':=by omega
   have hcl:k<F.blocks.length:=by rw[HN.out];exact hkn
   obtain⟨x,HX⟩:∃x,Hid (F.blocks[k]?=some x):=⟨F.blocks[k],List.getElem?_eq_getElem hcl⟩;obtain⟨bb,off,hba,pv,lv,t0,t1,t2,t3,t4,t5,hpv,hlv⟩:=kJ.yg HF.out HN.out hkn HX.out;subst hba;have HLV:Hid (jz 0 5 jU w lv x.list):=hlv;obtain⟨la,lcap,rfl,hlm,-⟩:=hlv;obtain⟨pa,pcap,rfl,hpm,-⟩:=hpv;obtain⟨ln,HLN⟩:∃z,Hid (x.list.length=z):=⟨_,rfl⟩;obtain⟨pn,HPN⟩:∃z,Hid (x.phis.length=z):=⟨_,rfl⟩;rw[HLN.out] at t1 hlm;rw[HPN.out] at t0 hpm;replace t0:=Bel.keeps HI.out.bel t0;replace t1:=Bel.keeps HI.out.bel t1;replace t2:=Bel.keeps HI.out.bel t2;replace t3:=Bel.keeps HI.out.bel t3;replace t4:=Bel.keeps HI.out.bel t4;replace t5:=Bel.keeps HI.out.bel t5;clear hcl hlm hpm;obtain⟨W2,hW2⟩:∃W2,W.alloc (.cells #[.slice pa pn pcap,.slice la ln lcap,vi x.term.k,vi x.term.a,vi x.term.t,vi x.term.e] 43)=W2:=⟨_,rfl⟩;have BW2:Hid (Below W.heap.size W W2):=by rw[←hW2];exact Bel.alloc _ _
   have hsW2:W2.heap.size=W.heap.size+1:=by rw[←hW2];simp
   have KB:Hid (W2.heap[W.heap.size]?=some (.cells #[.slice pa pn pcap,.slice la ln lcap,vi x.term.k,vi x.term.a,vi x.term.t,vi x.term.e] 43 (0,0))):=by rw[←hW2];exact World.alloc_heap_new W _
   have I2:Hid (BzI w w4 w2.heap.size 0 Ds M W2):=HI.out.below BW2.out hsW hX4 (by omega) (fun D hD=>HI.out.marks.lt hD);obtain⟨oa,ok,oc,hoc⟩:=Q5 (HNE.out.rowO k hkn);have hgO:=HNE.out.ltO;have hlO:=HNE.out.lowO;have q6:W2.cell? (Z w3.heap.size 1)=some (.slice (some (Z gO 0)) n' n'):=(World.cell?_of_block (w:=w4) (a:=(Z w3.heap.size 1)) (I2.out.same w3.heap.size (by omega) (by omega))).trans ((je N4.out 1).trans rfl)
   have q7:W2.cell? (Z gO k)=some (.slice oa ok oc):=(World.cell?_of_block (w:=w4) (a:=(Z gO k)) (I2.out.same gO (by omega) (by omega))).trans (by
    have:=(HNE.out.setO hkn).cell;rw[hoc] at this
    exact this)
   have d0:W2.cell? (Z W.heap.size 0)=some (.slice pa pn pcap):=(je KB.out 0).trans rfl;have d1:W2.cell? (Z W.heap.size 1)=some (.slice la ln lcap):=(je KB.out 1).trans rfl;have d2:W2.cell? (Z W.heap.size 2)=some (vi x.term.k):=(je KB.out 2).trans rfl;have d3:W2.cell? (Z W.heap.size 3)=some (vi x.term.a):=(je KB.out 3).trans rfl;have d4:W2.cell? (Z W.heap.size 4)=some (vi x.term.t):=(je KB.out 4).trans rfl;have d5:W2.cell? (Z W.heap.size 5)=some (vi x.term.e):=(je KB.out 5).trans rfl
   gi_wp2_with fail
   try rw[hW2]
   clear hW2;refine Kq (S:=fun W'=>W'.cell? (Z W.heap.size 0)=some (.slice pa pn pcap)∧W'.cell? (Z W.heap.size 1)=some (.slice la ln lcap)∧W'.cell? (Z W.heap.size 2)=some (vi x.term.k)∧W'.cell? (Z W.heap.size 3)=some (vi x.term.a)∧W'.cell? (Z W.heap.size 4)=some (vi x.term.t)∧W'.cell? (Z W.heap.size 5)=some (vi x.term.e)∧W'.cell? (Z w3.heap.size 1)=some (.slice (some (Z gO 0)) n' n')∧W'.cell? (Z gO k)=some (.slice oa ok oc)) (by kernel_rfl) ⟨d0,d1,d2,d3,d4,d5,q6,q7⟩ (fun hHeld=>?_);refine tkA 0 ⟨some 22,.load 43 (.tmp 6),43,"l11_live.go:48",#[],none⟩ ?_ (fun w hSw=>?_) ?_;rotate_left
   ·(try dsimp only at hSw);go_simp;(try with_reducible rfl)
   try simp only[Act.put,sT,sZ,sS]
   refine tkA 1 ⟨some 23,.fieldAddr 63 (.tmp 4) 1,0,"l11_live.go:48",#[],none⟩ ?_ (fun w hSw=>?_) ?_;rotate_left
   ·(try dsimp only at hSw);go_simp;(try with_reducible rfl)
   try simp only[Act.put,sT,sZ,sS]
   refine tkA 2 ⟨some 24,.load 61 (.tmp 23),61,"l11_live.go:48",#[⟨1,.data⟩],none⟩ ?_ (fun w hSw=>?_) ?_;rotate_left
   ·(try dsimp only at hSw);go_simp;(try with_reducible rfl)
   try simp only[Act.put,sT,sZ,sS]
   refine tkA 3 ⟨some 25,.move (.tmp 5),3,"l11_live.go:48",#[],none⟩ ?_ (fun w hSw=>?_) ?_;rotate_left
   ·(try dsimp only at hSw);go_simp;(try with_reducible rfl)
   try simp only[Act.put,sT,sZ,sS]
   refine tkA 4 ⟨some 26,.indexAddr 61 (.tmp 24) (.tmp 25),0,"l11_live.go:48",#[⟨2,.data⟩,⟨3,.data⟩],none⟩ ?_ (fun w hSw=>?_) ?_;rotate_left
   ·(try dsimp only at hSw);go_simp;(try with_reducible rfl)
   try simp only[Act.put,sT,sZ,sS]
   refine tkA 5 ⟨some 27,.load 74 (.tmp 26),74,"l11_live.go:48",#[⟨4,.data⟩],none⟩ ?_ (fun w hSw=>?_) ?_;rotate_left
   ·(try dsimp only at hSw);go_simp;(try with_reducible rfl)
   try simp only[Act.put,sT,sZ,sS]
   refine jg (i:=6) (o:=⟨some 28,.call ⟨.value (.func 45),#[.tmp 22,.tmp 27],#[43,74]⟩,71,"l11_live.go:48",#[⟨0,.data⟩,⟨5,.data⟩],none⟩) rfl rfl (by kernel_rfl) (fun K9 hK9=>?_);refine jx (f:=45) (args := #[.agg #[.slice pa pn pcap,.slice la ln lcap,vi x.term.k,vi x.term.a,vi x.term.t,vi x.term.e],.agg #[.slice oa ok oc]]) (YV rfl (by kernel_rfl) (by kernel_rfl) (enters_of Tryz.func45 (by kernel_rfl) rfl) _) (Kk pa la oa pn pcap ln lcap ok oc x.term.k x.term.a x.term.t x.term.e W2.drew) ?_;rintro e W3 ⟨rfl,hW3⟩;have B23:Below W2.heap.size W2 W3:=by rw[hW3];exact((Below.refl _ W2).drew).trans (((Below.refl W2.heap.size W2.drew).alloc (Nat.le_refl _) _).alloc (by simp) _)
   refine⟨_,rfl,hK9 _ _ ⟨⟨Bel.keeps B23 d0,Bel.keeps B23 d1,Bel.keeps B23 d2,Bel.keeps B23 d3,Bel.keeps B23 d4,Bel.keeps B23 d5,Bel.keeps B23 q6,Bel.keeps B23 q7⟩,?_⟩⟩;refine wpAnyH_done (by kernel_rfl) ?_ _;simp only[onlyNormal,Exit.then,Act.put,sT,sS,sZ]
   go_at_K
   gi_wp2
   have hbx0:W3.heap[W2.heap.size]?=some (.cells #[.slice pa pn pcap,.slice la ln lcap,vi x.term.k,vi x.term.a,vi x.term.t,vi x.term.e] 43 (0,0)):=by
    rw[hW3,Below.heap_alloc _ _ _ (by simp)];exact World.alloc_heap_new W2.drew _
   have hbx1:W3.heap[W2.heap.size+1]?=some (.cells #[.slice oa ok oc] 74 (0,0)):=by
    rw[hW3];have:=World.alloc_heap_new (W2.drew.alloc (.cells #[.slice pa pn pcap,.slice la ln lcap,vi x.term.k,vi x.term.a,vi x.term.t,vi x.term.e] 43)) (.cells #[.slice oa ok oc] 74)
    rwa [World.size_alloc] at this
   have hsW3:W3.heap.size=W2.heap.size+2:=by rw[hW3];simp
   have hI3:BzI w w4 w2.heap.size 0 Ds M W3:=I2.out.below B23 (by omega) hX4 (by omega) (fun D hD=>I2.out.marks.lt hD);have I3:Hid (BzI w w4 w2.heap.size W3.heap.size Ds M W3):=⟨hI3.box,hI3.same,hI3.bel,hI3.size,hI3.marks,Nat.le_refl _⟩;obtain⟨no,HNO⟩:∃z,Hid (yT F (qz F) k=z):=⟨_,rfl⟩;have hnoa:Asc no∧JZ no:=by rw[←HNO.out];exact⟨yF _,Qp _⟩
   have hnot:0<ln→∀c2 off2,la=some (Z c2 off2)→c2≠w2.heap.size:=fun hp c2 off2 e e2=>by
    have hl:0<x.list.length:=by have:=HLN.out;omega
    have HL3:=HLV.out;rw[HLN.out] at HL3;obtain⟨c',off',e',hi⟩:=ZG HL3 (List.getElem?_eq_getElem hl);rw[e] at e';cases e'
    have h9:=World.block_lt_of_cell? w _ hi.1;simp at h9;omega
   have hseq:ahr Fence.wide 5 Tryz.prog 68 #[.pointer (some (Z (W2.heap.size+1) 0)),.pointer (some (Z W2.heap.size 0))] bEnc (bDt x no W3.heap.size) (bS x no W3.heap.size) w2.heap.size (ln+1) W3:=by
    have hrow:ja W3 wB.heap.size (.slice oa ok oc) no:=by
     have h9:=HNE.out.rowO k hkn;rw[HNO.out,hoc] at h9;exact h9.ZO (fun b hb=>hI3.same b (h9.lt b hb).2 (by have:=(h9.lt b hb).1;omega))
    have hL2:=kN HLV.out (kM.jK hI3.bel 0);rw[HLN.out] at hL2;exact ZI 5 (by omega) w2.heap.size x no hnoa.1 hnoa.2 (HPV.out.takes k x HX.out) (W2.heap.size+1) W2.heap.size (.slice oa ok oc) la ln lcap HLN.out W3 ((je hbx1 0).trans rfl) hrow.at ((je hbx0 1).trans rfl) ((je hbx0 2).trans rfl) ((je hbx0 3).trans rfl) ((je hbx0 4).trans rfl) ((je hbx0 5).trans rfl) hL2 (by omega) hnot
   clear hW3 hbx0 hbx1 B23 hHeld hK9 hI3 d0 d1 d2 d3 d4 d5 q6 q7 t0 t1 t2 t3 t4 t5;have hgV:w2.heap.size<W3.heap.size:=by omega
   have hDB:Hid (∀D∈Ds,D<W3.heap.size):=fun D hD=>I3.out.marks.lt hD
   have hBB:w4.heap.size≤W3.heap.size:=by omega
   clear hsW2 hsW3;refine yA (α:=Int × Value) rfl (by omega) (gf:=68) (lb := #[.pointer (some (Z (W2.heap.size+1) 0)),.pointer (some (Z W2.heap.size 0))]) rfl trivial (enters_of Tryz.func68 (by kernel_rfl) rfl)
    hseq (Below.refl _ _) hgV (fun _=>rfl)
    (fun pre U=>BzI w w4 w2.heap.size W3.heap.size Ds (Q6 M pre) U)
    (fun _ _ _=>False)
    (fun pre y a' U=>BzI w w4 w2.heap.size W3.heap.size Ds (Q6 M pre) U∧∃Bx sa sn sc,y.2=.slice sa sn sc∧U.heap[Bx]?=some (.cells #[.slice sa sn sc] 74 (0,0))∧a' = { tmps := #[.agg #[.slice (some (Z bb off)) n' bcap,vi vals],.pointer (some (Z w.heap.size 0)),vi 0,.pointer (some (Z w2.heap.size 0)),.pointer (some (Z w3.heap.size 0)),vi k,.pointer (some (Z W.heap.size 0)),undef,.pointer (some (Z Bx 0)),.agg #[.slice (some (Z bb off)) n' bcap,vi vals],.bool true,.bool false,.agg #[.slice (some (Z bb off)) n' bcap,vi vals],.agg #[.slice (some (Z gI 0)) n' n',.slice (some (Z gO 0)) n' n'],.pointer (some (Z w.heap.size 0)),.slice (some (Z bb off)) n' bcap,vi n',vi k,.bool true,vi k,.pointer (some (Z bb (off+k*6))),.agg #[.slice pa pn pcap,.slice la ln lcap,vi x.term.k,vi x.term.a,vi x.term.t,vi x.term.e],.agg #[.slice pa pn pcap,.slice la ln lcap,vi x.term.k,vi x.term.a,vi x.term.t,vi x.term.e],.pointer (some (Z w3.heap.size 1)),.slice (some (Z gO 0)) n' n',vi k,.pointer (some (Z gO k)),.agg #[.slice oa ok oc],.func (.func 68) #[] #[.pointer (some (Z (W2.heap.size+1) 0)),.pointer (some (Z W2.heap.size 0))],vi y.1,.agg #[y.2],undef,undef,undef,undef,undef,x36,undef],defers := [] })
    (fun s X Y h hbl=>h.below hbl hBB hX4 (by omega) hDB.out)
    (fun c=>ownFrom_pure _ _)
    (fun pre y a' _ A B row h hg hr=>⟨h.1.below (kX hg h.1.room (fun r e=>(hr r e).1)) hBB hX4 (by omega) hDB.out,h.2.elim fun Bx h2=>⟨Bx,h2.elim fun sa h3=>⟨sa,h3.elim fun sn h4=>⟨sn,h4.elim fun sc h5=>⟨sc,h5.1,j6 h5.2.1 hg (fun r e=>(hr r e).2),h5.2.2⟩⟩⟩⟩⟩)
    (fun ys U U' row h hg hr=>⟨h.1,h.2.elim fun y hy=>⟨y,hy.1,hy.2.zh hg (fun r e=>(hr r e).2)⟩⟩)
    I3.out ?assign ?body ?done ?stop
   case assign=>
    rintro l2 pre ⟨yi,yv⟩ U K hi hdt hK;have HIU:Hid (BzI w w4 w2.heap.size W3.heap.size Ds (Q6 M pre) U):=hi;obtain⟨sa,sn,sc,rfl⟩:∃a m c,yv=.slice a m c:=by obtain⟨j,_,_,h3⟩:=hdt;exact Q5 h3
    dsimp only[bEnc];clear hi hdt hseq
    gi_wp2
    exact hK _ _ ⟨HIU.out.below (Bel.aeX _ _ HIU.out.room) hBB hX4 (by omega) hDB.out,U.heap.size,sa,sn,sc,rfl,World.alloc_heap_new U _,rfl⟩ (jZ.below (Bel.alloc _ _))
   case body=>
    rintro l2 pre ⟨yi,yv⟩ a' U ⟨hi,Bx,sa,sn,sc,hyv,hbox,rfl⟩ _;dsimp only at hyv;subst hyv;have HIU:Hid (BzI w w4 w2.heap.size W3.heap.size Ds (Q6 M pre) U):=hi;obtain⟨z0,z1⟩:=adY hi.box;have z2:=(adY hbox).1;obtain⟨mm,HMM⟩:∃m,Hid (Q6 M pre=m):=⟨_,rfl⟩;rw[HMM.out] at z0;clear hi hbox hseq;have HEN:Hid (Q6 M (pre ++ [(yi,.slice sa sn sc)])=max mm sn):=(afF _ _ _).trans (by rw[HMM.out];rfl)
    gi_wp2
    refine⟨jZ.setCell _ _,?_⟩;show BzI _ _ _ _ _ _ _;rw[HEN.out,show max (mm:Int) (sn:Int)=((max mm sn:Nat):Int) by omega];exact HIU.out.put hX4 hw24 _
   case done=>
    rintro D ys U hD ⟨hS1,_⟩ hi hK;have HT2:Hid (Top F (qy F (k+1)) (Q6 M ys)):=ahf HX.out HT.out (by rw[HNO.out];exact hS1)
    have HIU:Hid (BzI w w4 w2.heap.size 0 (D::Ds) (Q6 M ys) U):=⟨hi.box,hi.same,hi.bel,hi.size,⟨List.nodup_cons.2 ⟨fun hm=>by have:=hDB.out D hm;omega,hi.marks.nd⟩,fun E hE=>by
     rcases List.mem_cons.1 hE with rfl | hE
     ·exact⟨by omega,hK⟩
     ·exact hi.marks.each E hE⟩,Nat.zero_le _⟩
    clear hi hK hS1 hseq
    gi_wp2
    refine⟨⟨k+1,Q6 M ys,D::Ds,_,_,_,_,_,_,_,_,_,_,_,_,_,_,by omega,rfl,HIU.out,HT2.out⟩,?_⟩;simp[intOf,Act.eval];omega
   case stop=>
    rintro D cc pre U _ h _;exact h.elim
  ·have ekn:n'=k:=by omega
   subst ekn;have HE:Hid (Km F=(M:Int)):=z7 (.inr ⟨HP.out,M,rfl,by rw[HN.out];exact HT.out⟩)
   gi_wp2
   refine Yk (lo:=w4.heap.size) Ds _ HI.out.marks (fun w' hb hk2=>?_) hsW;refine⟨_,results_tmp rfl _ _ _,?_,HI.out.bel.trans (hb.mono (by omega))⟩;rw[HE.out]
   rfl
end Go.Proofs.YtkbhbekfniadhaaGreat
