/- The model's Lower: what a program is without phis. -/
import Derived.Test.YtkbhbekfniadhaaGreatTkK
import Derived.Test.YtkbhbekfniadhaaGreatTk0
import Derived.Test.YtkbhbekfniadhaaGreatKLowA
import Derived.Test.YtkbhbekfniadhaaGreatKSplit
import Derived.Test.YtkbhbekfniadhaaGreatKLowM
import Derived.Test.YtkbhbekfniadhaaGreatKSh8
set_option maxRecDepth 100000
set_option maxHeartbeats 16000000
namespace Go.Proofs.YtkbhbekfniadhaaGreat
open Go.ChangeShapes Go.WideShapes Go.ChangeAt Go.RowKit
set_option linter.unusedVariables false
theorem ad6 {F:FnD}(h:jm F):JR F:=by
 refine⟨by have:=h.2.1;omega,fun x hx=>?_⟩;obtain⟨i,hi⟩:=List.getElem?_of_mem hx;obtain⟨h1,h2,h3,_⟩:=h.2.2.2.2 i x hi;refine⟨by omega,by omega,fun p hp=>?_⟩;obtain⟨j,hj⟩:=List.getElem?_of_mem hp;have:=(h3 j p hj).2.1;show _≤_;omega
theorem afS {F:FnD}(h:kF F=0):yR F:=by
 refine Classical.byContradiction fun h5=>?_
 have key:kF F≠0:=by
  unfold kF;split <;> (try split) <;> (try split) <;> (try split) <;> simp
  try exact fun h=>absurd h h5
 exact key h
def ab1 (own:k6)(w:World)(bv:Value)(bs:List jc):Prop:=kE (fun g=>own g=(0,0,0)) 6 (fun _ w b o (x:jc)=>∃la lc,w.cell? (Z b (o+1))=some (.slice la x.list.length lc)∧x.list.length≤lc) w bv bs
theorem ab1.same {own:k6}{w w':World}{bv:Value}{bs:List jc}(h:ab1 own w bv bs)(hs:∀g,own g=(0,0,0)→w'.heap[g]?=w.heap[g]?):ab1 own w' bv bs :=
 kE.imp h (fun _ h=>h) (fun i b o x hb _ hx=>by
  obtain⟨la,lc,h1,h2⟩:=hx
  exact⟨la,lc,(jf (hs b hb) _).trans h1,h2⟩)
theorem z6.caps {own:k6}{w:World}{bv:Value}{bs:List jc}(h:z6 own w bv bs):ab1 own w bv bs :=
 kE.imp h (fun _ h=>h) (fun i b o x hb _ hx=>by
  obtain⟨la,lc,h1,h2⟩:=hx;refine⟨la,lc,h1,?_⟩;rcases h2 with ⟨h3,_⟩ | h3
  ·omega
  ·obtain⟨_,g,cur,_,_,h4,_⟩:=h3
   omega)
theorem ab1.nil (own:k6)(w:World):ab1 own w (.slice none 0 0) []:=kE.nil none 0
def GivesLow (w:World)(F:FnD)(b:Bool)(e:Ending)(w':World):Prop := ∃bv own,e=.returned (.tuple #[.agg #[bv,vi F.values],.bool b])∧FnO w.heap.size own w' bv F.blocks∧ab1 own w' bv F.blocks∧Below w.heap.size w w'
def Kr (F:FnD):Prop:=kF F=0∧JV F = []∧jm (agm F)
open Classical in
noncomputable def lowG (F:FnD):FnD:=if Kr F then agm F else⟨[],0⟩
open Classical in
noncomputable def ad7 (F:FnD):Bool:=decide (Kr F)
theorem YX {F:FnD}(h:Kr F):lowG F=agm F∧ad7 F=true:=⟨if_pos h,by simp[ad7,h]⟩
theorem yP {F:FnD}(h:¬Kr F):lowG F=⟨[],0⟩∧ad7 F=false:=⟨if_neg h,by simp[ad7,h]⟩
theorem adh {w:World}{lo m mcap:Nat}{ma:Option Addr}{L:List jy}(h:jd w lo (.slice ma m mcap) L)(hL:L.length=m)(hp:0<m):∃mg,ma=some (Z mg 0):=by
 rcases h.2 with ⟨e,h0⟩ | ⟨g,c,cur,e,_⟩
 ·simp at e;omega
 ·simp at e;exact⟨g,e.1⟩
theorem wrap_lt {j m:Nat}(h:j<m)(hm:m≤1000):wrap64 ((j:Int)+1)=(j:Int)+1:=by unfold wrap64;omega
theorem low_room {l0 XL:List kS}{L:List jy}{j q:Nat}(h:l0 ++ (L.take j).map ado=XL)(hq:XL.length=q)(h0:l0.length≤1000)(hL:L.length≤48):q≤1000000:=by
 rw[←hq,←h,List.length_append,List.length_map,List.length_take];omega
def LowR (lo O:Nat)(w5:World)(vals:Int)(F:FnD)(bv:Value)(n:Nat)(i:Value)(wr:World):Prop := ∃(k:Nat) (own:k6),k≤n∧i=vi k∧xD (fun _=>False) lo O w5 wr vals own bv (yB F k)
def LowIn (K:Nat→Prop)(lo O:Nat)(w5:World)(vals:Int)(F:FnD)(k:Nat)(x:jc)(L:List jy)(bv:Value)(m:Nat)(i:Value)(wr:World):Prop := ∃(j:Nat) (own:k6),j≤m∧i=vi j∧xD K lo O w5 wr vals own bv ((yB F k).set k ⟨[],x.list ++ (L.take j).map ado,x.term⟩)
theorem box_off2 (w:World)(R:Nat)(x y:Value){g:Nat}(h:g≠R):((w.setCell (Z R 0) x).setCell (Z R 1) y).heap[g]?=w.heap[g]?:=by
 rw[Below.heap_setCell _ _ _ g h,Below.heap_setCell _ _ _ g h]
theorem abq (v:Value)(F:FnD)(w:World)(hF:kJ w v F) :
  Calls Tryz.prog 85 #[v] w fun e w'=>GivesLow w (lowG F) (ad7 F) e w':=by
 have HF:Hid (kJ w v F):=hF;obtain⟨n,HN⟩:∃n,Hid (F.blocks.length=n):=⟨_,rfl⟩;obtain⟨vals,HV⟩:∃x,Hid (F.values=x):=⟨_,rfl⟩;obtain⟨ba,bcap,rfl⟩:=hF.out HN.out HV.out;clear hF;obtain⟨wA,hwA⟩:∃wA,(w.alloc (.cells #[.slice ba n bcap,vi vals] 26)).alloc (.cells #[.slice none 0 0,vi 0] 26)=wA:=⟨_,rfl⟩;have BA:Hid (Below w.heap.size w wA):=by rw[←hwA];exact Bel.after (Bel.alloc _ _) (Bel.alloc _ _)
 have bk:wA.heap.size=w.heap.size+1+1:=by rw[←hwA];simp
 have XA:Hid (wA.heap[w.heap.size]?=some (.cells #[.slice ba n bcap,vi vals] 26 (0,0))):=by
  rw[←hwA,Below.heap_alloc _ _ _ (by simp)];exact World.alloc_heap_new w _
 have RA:Hid (wA.heap[w.heap.size+1]?=some (.cells #[.slice none 0 0,vi 0] 26 (0,0))):=by
  rw[←hwA];have:=World.alloc_heap_new (w.alloc (.cells #[.slice ba n bcap,vi vals] 26)) (.cells #[.slice none 0 0,vi 0] 26)
  rwa [World.size_alloc] at this
 have a0:wA.cell? (Z w.heap.size 0)=some (.slice ba n bcap):=(kH XA.out 0).trans rfl;have a1:wA.cell? (Z w.heap.size 1)=some (vi vals):=(kH XA.out 1).trans rfl;go_enter Tryz.func85,Tryz.ntmps85
 go_wp2_with fail
 try rw[hwA]
 clear hwA;refine(aa8 _ F _ (HF.out.later BA.out)).mono ?_;rintro e w4 ⟨rfl,b4⟩;obtain⟨ck,HCK⟩:∃c,Hid (kF F=c):=⟨_,rfl⟩;rw[HCK.out];have B4:Hid (Below w.heap.size w w4):=Bel.after BA.out b4;have bh:=b4.size;have X4:Hid (w4.heap[w.heap.size]?=some (.cells #[.slice ba n bcap,vi vals] 26 (0,0))):=(b4.block _ (by omega)).trans XA.out;have R4:Hid (w4.heap[w.heap.size+1]?=some (.cells #[.slice none 0 0,vi 0] 26 (0,0))):=(b4.block _ (by omega)).trans RA.out;replace a0:=Bel.keeps b4 a0;replace a1:=Bel.keeps b4 a1;clear b4 XA RA;by_cases aE:ck=0
 ·subst aE;have H:Hid (jm F):=aat HCK.out;have a6:Hid (yR F):=afS HCK.out;go_wp2_with fail
  refine(KQ _ F _ (HF.out.later B4.out) H.out).mono ?_;rintro e w5 ⟨ev,rfl,hoe,b5⟩;obtain⟨m,HM⟩:∃z,Hid ((critUp F F.blocks.length).length=z):=⟨_,rfl⟩;obtain⟨ea,ecap,rfl⟩:∃a c,ev=.slice a m c:=by
   obtain⟨a,c,e,_⟩:=hoe.row;exact⟨a,c,by rw[e,HM.out]⟩
  have aJ:Hid (JV F=critUp F F.blocks.length):=abd H.out;have B5:Hid (Below w.heap.size w w5):=Bel.after B4.out b5;have ah:=b5.size;have X5:Hid (w5.heap[w.heap.size]?=some (.cells #[.slice ba n bcap,vi vals] 26 (0,0))):=(b5.block _ (by omega)).trans X4.out;have R5:Hid (w5.heap[w.heap.size+1]?=some (.cells #[.slice none 0 0,vi 0] 26 (0,0))):=(b5.block _ (by omega)).trans R4.out;replace a0:=Bel.keeps b5 a0;replace a1:=Bel.keeps b5 a1;have ao:m≤9223372036854775807:=by
   have:=Xy F F.blocks.length;have h2:F.blocks.length≤16:=H.out.2.1;have:=HM.out;omega
  clear hoe b5 X4 R4;by_cases aS:m=0
  ·subst aS;have aW:Hid (JV F = []):=aJ.out.trans (List.eq_nil_of_length_eq_zero HM.out);have bf:n≤16:=by rw[←HN.out];exact H.out.2.1
   have br:1≤n:=by rw[←HN.out];exact H.out.1
   have bx:0≤vals:=by rw[←HV.out];exact H.out.2.2.1
   have bl:vals≤80:=by rw[←HV.out];exact H.out.2.2.2.1
   have bn:wrap64 (vals+1)=vals+1:=by unfold wrap64;omega
   go_wp2_with fail
   refine(Yi _ F _ (HF.out.later B5.out) (ad6 H.out)).mono ?_;rintro e w6 ⟨bv,own,rfl,hfo,hrr,hrm,b6⟩;rw[HV.out];have ai:Hid (FnO w5.heap.size own w6 bv F.blocks):=hfo;have aO:Hid (z6 own w6 bv F.blocks):=hrm;have B6:Hid (Below w.heap.size w w6):=Bel.after B5.out b6;have bi:=b6.size;have X6:Hid (w6.heap[w.heap.size]?=some (.cells #[.slice ba n bcap,vi vals] 26 (0,0))):=(b6.block _ (by omega)).trans X5.out;have R6:Hid (w6.heap[w.heap.size+1]?=some (.cells #[.slice none 0 0,vi 0] 26 (0,0))):=(b6.block _ (by omega)).trans R5.out;replace a0:=Bel.keeps b6 a0;replace a1:=Bel.keeps b6 a1;obtain⟨rb,roff,scap,rfl⟩:∃rb roff c,bv=sq rb roff n c:=by
    obtain⟨x,hx⟩:∃x,F.blocks[0]?=some x:=⟨_,List.getElem?_eq_getElem (by have:=HN.out;omega)⟩;obtain⟨rb,roff,c,_,_,e,_⟩:=ai.out.aez hx;exact⟨rb,roff,c,by rw[e,HN.out]⟩
   clear hfo hrr hrm b6 X5 R5;have f0:=Bel.keeps (Bel.alloc w6 (.cells #[sq rb roff n scap,vi vals] 26)) a0;have f1:=Bel.keeps (Bel.alloc w6 (.cells #[sq rb roff n scap,vi vals] 26)) a1;obtain⟨w7,hw7⟩:∃W,(w6.alloc (.cells #[sq rb roff n scap,vi vals] 26)).setCell (Z w6.heap.size 1) (vi (vals+1))=W:=⟨_,rfl⟩;have O7:Hid (w7.heap[w6.heap.size]?=some (.cells #[sq rb roff n scap,vi (vals+1)] 26 (0,0))):=by
    show _=_;rw[←hw7];have h0:=World.alloc_heap_new w6 (.cells #[sq rb roff n scap,vi vals] 26);show((w6.alloc _).heap.modify w6.heap.size _)[w6.heap.size]?=_;obtain⟨hl,hk⟩:=aI h0;rw[Array.getElem?_eq_getElem (by rw[Array.size_modify];exact hl),Array.getElem_modify_self,hk]
    rfl
   have ab:Hid (Below w6.heap.size w6 w7):=by
    show Below _ _ _;rw[←hw7];exact(Bel.alloc w6 _).setCell (p:=(Z w6.heap.size 1)) (Nat.le_refl _) _
   have bj:w7.heap.size=w6.heap.size+1:=by rw[←hw7];simp
   have aM:Hid (3<(own w6.heap.size).1):=by
    have:¬(own w6.heap.size).1≤3:=fun h=>by have:=ai.out.high _ h;omega
    exact Nat.lt_of_not_le this
   have af:w.heap.size+1+1≤w5.heap.size:=by omega
   have aA:Hid (xD (fun _=>False) (w.heap.size+1+1) w6.heap.size w7 w7 (vals+1) own (sq rb roff n scap) F.blocks) :=
    ⟨O7.out,(ai.out.keep ab.out).low' af,aO.out.same (fun _ h=>h) (fun g hg=>ab.out.block g hg),Below.refl _ _,by omega,fun g hg=>hg.elim,aM.out⟩
   have X7:Hid (w7.heap[w.heap.size]?=some (.cells #[.slice ba n bcap,vi vals] 26 (0,0))):=(ab.out.block _ (by omega)).trans X6.out;have R7:Hid (w7.heap[w.heap.size+1]?=some (.cells #[.slice none 0 0,vi 0] 26 (0,0))):=(ab.out.block _ (by omega)).trans R6.out;have B7:Hid (Below w.heap.size w w7):=Bel.after B6.out ab.out;clear X6 R6 ai aO ab O7 aM;go_wp2_with fail
   try rw[bn]
   try rw[hw7]
   clear hw7 a0 a1 f0 f1;obtain⟨O,HO⟩:∃z,Hid (w6.heap.size=z):=⟨_,rfl⟩;rw[HO.out] at aA bj ⊢;have bz:w.heap.size+1+1≤O:=by have:=HO.out;omega
   clear HO bi B6 ah bh B5 B4 bk BA af;go_loopw [5] (fun i wr=>LowR (w.heap.size+1+1) O w7 (vals+1) F (sq rb roff n scap) n i wr) (fun i _=>n-(intOf i).toNat)
   case atStart=>exact⟨0,own,Nat.zero_le _,rfl,by rw[afX];exact aA.out⟩
   case round=>
    obtain⟨wq,hwq⟩:∃x,x=wr:=⟨_,rfl⟩;subst hwq;obtain⟨k,own',hk,rfl,hst⟩:=hrel;have ST:Hid (xD (fun _=>False) (w.heap.size+1+1) O w7 wq (vals+1) own' (sq rb roff n scap) (yB F k)):=hst;clear hst aA;have Xq:Hid (wq.heap[w.heap.size]?=some (.cells #[.slice ba n bcap,vi vals] 26 (0,0))):=(ST.out.bel.block _ (by omega)).trans X7.out;have bw:=ST.out.bel.size;have Bq:Hid (Below w.heap.size w wq):=B7.out.trans (ST.out.bel.mono (by omega));have q0:wq.cell? (Z w.heap.size 0)=some (.slice ba n bcap):=(kH Xq.out 0).trans rfl;have q1:wq.cell? (Z w.heap.size 1)=some (vi vals):=(kH Xq.out 1).trans rfl;have mO:wq.cell? (Z O 0)=some (sq rb roff n scap):=(kH ST.out.box 0).trans rfl;by_cases be:(k:Int)<(n:Int)
    ·have V:Hid (k<n):=Int.ofNat_lt.1 be;obtain⟨x,HX⟩:∃x,Hid (F.blocks[k]?=some x):=⟨_,List.getElem?_eq_getElem (by rw[HN.out];exact V.out)⟩;have aN:Hid ((yB F k)[k]?=some x):=by
      show _=_;rw[Y0 HX.out,if_neg (Nat.lt_irrefl k)]
     have aU:wrap64 ((k:Int)+1)=(k:Int)+1:=by unfold wrap64;omega
     obtain⟨bo,roff',cap',pv,lv,hv',hrb,c0,hre⟩:=ST.out.fn.aez aN.out;simp at hv';obtain⟨⟨e1,e2⟩,hcap⟩:=hv';subst e1 e2;have zf:=hre.2.2.2.2.2.2.2 (roff+k*6);have HD:=ST.out.drop aN.out;obtain⟨wD,hwD⟩:∃W,wq.setCell (Z rb (roff+k*6)) (.slice none 0 0)=W:=⟨_,rfl⟩;rw[hwD] at HD;have SD:Hid (xD (fun _=>False) (w.heap.size+1+1) O w7 wD (vals+1) own' (sq rb roff n scap) ((yB F k).set k { x with phis := [] })):=HD;have bg:w.heap.size+1+1≤rb:=ST.out.fn.low rb (by rw[hrb];simp);have BD:Hid (Below w.heap.size w wD):=B7.out.trans (SD.out.bel.mono (by omega));have XD:Hid (wD.heap[w.heap.size]?=some (.cells #[.slice ba n bcap,vi vals] 26 (0,0))):=(SD.out.bel.block _ (by omega)).trans X7.out;have d0:wD.cell? (Z w.heap.size 0)=some (.slice ba n bcap):=(kH XD.out 0).trans rfl;have d1:wD.cell? (Z w.heap.size 1)=some (vi vals):=(kH XD.out 1).trans rfl;have bp:Hid (own' rb=(0,0,0)):=hrb;clear HD hre hrb lv hcap cap';go_wp2_with fail
     try rw[hwD]
     clear hwD q0 q1 mO c0 zf pv;refine(zo _ F k _ (HF.out.later BD.out) (by rw[HN.out];exact V.out)).mono ?_;rintro e w8 ⟨nv,rfl,hno,b8⟩;obtain⟨NX,HNX⟩:∃z,Hid (succsN F k=z):=⟨_,rfl⟩;rw[HNX.out] at hno;have ON:Hid (ja w8 wD.heap.size nv NX):=hno;obtain⟨nl,HNL⟩:∃z,Hid (NX.length=z):=⟨_,rfl⟩;obtain⟨na,ncap,rfl⟩:∃a c,nv=.slice a nl c:=by
      rcases hno.2 with ⟨e,h0⟩ | ⟨g,c,cur,e,_⟩
      ·exact⟨none,0,by rw[e,←HNL.out,h0]⟩
      ·exact⟨_,c,by rw[e,HNL.out]⟩
     have bt:nl≤2:=by
      have h9:=zJ F k;rw[HNX.out,HNL.out] at h9;exact h9
     have S8:Hid (xD (fun _=>False) (w.heap.size+1+1) O w7 w8 (vals+1) own' (sq rb roff n scap) ((yB F k).set k { x with phis := [] })):=SD.out.keep b8;have B8:Hid (Below w.heap.size w w8):=Bel.after BD.out b8;replace d0:=Bel.keeps b8 d0;replace d1:=Bel.keeps b8 d1;clear hno b8;by_cases ag:nl=1
     ·subst ag;obtain⟨s0,e0⟩:∃s0,NX = [s0]:=by
       have h9:=HNL.out;rcases NX with _ | ⟨a,_ | ⟨b,r⟩⟩
       ·simp at h9
       ·exact⟨a,rfl⟩
       ·simp at h9
      subst e0;obtain⟨t,HTN,e1⟩:∃t:Nat,Hid (t<n)∧s0=(t:Int):=by
       obtain⟨h1,h2⟩:=JJ H.out k s0 (by rw[HNX.out];exact List.mem_cons_self);rw[HN.out] at h2;exact⟨s0.toNat,show _<_ by omega,by omega⟩
      subst e1;obtain⟨ng,e2⟩:∃ng,na=some (Z ng 0):=by
       rcases ON.out.2 with ⟨e,h0⟩ | ⟨g,c,cur,e,_⟩
       ·simp at e
       ·simp at e;exact⟨g,e.1⟩
      subst e2;have n0:w8.cell? (Z ng 0)=some (vi (t:Int)):=Xu (j:=0) (u:=vi (t:Int)) ON.out rfl;obtain⟨y,HY⟩:∃y,Hid (F.blocks[t]?=some y):=⟨_,List.getElem?_eq_getElem (by rw[HN.out];exact HTN.out)⟩;have I:Hid (adp F k=(ab6 vals (j5 k y.phis)).map ado):=by
       show _=_;unfold adp;rw[HNX.out];simp[HY.out,HV.out]
      have ap:Hid (zi (j5 k y.phis) vals=true):=by
       show _=_;rw[←HV.out];exact aed H.out a6.out HY.out
      obtain⟨M0,HM0⟩:∃z,Hid (j5 k y.phis=z):=⟨_,rfl⟩;obtain⟨L,HL⟩:∃z,Hid (ab6 vals M0=z):=⟨_,rfl⟩;rw[HM0.out,HL.out] at I;rw[HM0.out] at ap;have ad:Hid (L.length≤48):=by
       have h1:=ahB vals M0;have h2:=ZV ap.out;rw[HL.out] at h1;show _≤_;omega
      have az:Hid (y.phis.length≤24):=(H.out.2.2.2.2 t y HY.out).1;have ay:Hid (∀p∈y.phis,p.arms.length≤16):=fun p hp=>by
       obtain⟨j,hj⟩:=List.getElem?_of_mem hp;exact((H.out.2.2.2.2 t y HY.out).2.2.1 j p hj).2.1
      go_wp2_with fail
      refine wp_region_held_drew (S:=fun w'=>w'.cell? (Z w.heap.size 0)=some (.slice ba n bcap)∧w'.cell? (Z w.heap.size 1)=some (vi vals)∧w'.cell? (Z ng 0)=some (vi (t:Int))) (by kernel_rfl) ⟨d0,d1,n0⟩ (fun hHeld=>?_);obtain⟨wB,hwB⟩:∃W,w8.drew=W:=⟨_,rfl⟩;have hdr:Below w8.heap.size w8 wB:=by rw[←hwB];exact(Below.refl _ w8).drew
      have SB:Hid (xD (fun _=>False) (w.heap.size+1+1) O w7 wB (vals+1) own' (sq rb roff n scap) ((yB F k).set k { x with phis := [] })):=S8.out.keep hdr;have BB:Hid (Below w.heap.size w wB):=Bel.after B8.out hdr;rw[hwB] at hHeld ⊢;clear hwB hdr d0 d1 n0 ON S8 B8 SD BD XD;refine tkA 0 ⟨some 43,.load 26 (.tmp 1),26,"l10_plain.go:43",#[],none⟩ ?_ (fun w h=>?_) ?_;rotate_left
      ·(try dsimp only at h);go_simp;(try with_reducible rfl)
      try simp only[Act.put,sT,sZ,sS]
      refine tkA 1 ⟨some 44,.move (.tmp 5),3,"l10_plain.go:43",#[],none⟩ ?_ (fun w h=>?_) ?_;rotate_left
      ·(try dsimp only at h);go_simp;(try with_reducible rfl)
      try simp only[Act.put,sT,sZ,sS]
      refine tkA 2 ⟨some 45,.move (.tmp 6),30,"l10_plain.go:43",#[],none⟩ ?_ (fun w h=>?_) ?_;rotate_left
      ·(try dsimp only at h);go_simp;(try with_reducible rfl)
      try simp only[Act.put,sT,sZ,sS]
      refine tkA 3 ⟨some 46,.indexAddr 30 (.tmp 45) (.const (vi 0)),0,"l10_plain.go:43",#[⟨2,.data⟩],none⟩ ?_ (fun w h=>?_) ?_;rotate_left
      ·(try dsimp only at h);go_simp;(try with_reducible rfl)
      try simp only[Act.put,sT,sZ,sS]
      refine tkA 4 ⟨some 47,.load 3 (.tmp 46),3,"l10_plain.go:43",#[⟨3,.data⟩],none⟩ ?_ (fun w h=>?_) ?_;rotate_left
      ·(try dsimp only at h);go_simp;(try with_reducible rfl)
      try simp only[Act.put,sT,sZ,sS]
      refine tkA 6 ⟨some 49,.fieldAddr 26 (.tmp 1) 1,0,"l10_plain.go:43",#[],none⟩ ?_ (fun w h=>?_) ?_;rotate_left
      ·(try dsimp only at h);go_simp;(try with_reducible rfl)
      try simp only[Act.put,sT,sZ,sS]
      refine tkA 7 ⟨some 50,.load 3 (.tmp 49),3,"l10_plain.go:43",#[⟨6,.data⟩],none⟩ ?_ (fun w h=>?_) ?_;rotate_left
      ·(try dsimp only at h);go_simp;(try with_reducible rfl)
      try simp only[Act.put,sT,sZ,sS]
      refine jg (i:=5) (o:=⟨some 48,.call ⟨.value (.func 110),#[.tmp 43,.tmp 44,.tmp 47],#[26,3,3]⟩,158,"l10_plain.go:43",#[⟨0,.data⟩,⟨1,.data⟩,⟨4,.data⟩],none⟩) rfl rfl (by kernel_rfl) (fun K9 B=>?_);refine jx (f:=110) (args := #[.agg #[.slice ba n bcap,vi vals],vi (k:Int),vi (t:Int)]) (by go_simp) (adk _ F k t y _ (HF.out.later BB.out) HY.out az.out ay.out) ?_;rintro e wE ⟨aV,rfl,ao,bE⟩;rw[HM0.out] at ao;have a8:Hid (ab5 wE aV M0):=ao.at
      have SE:Hid (xD (fun _=>False) (w.heap.size+1+1) O w7 wE (vals+1) own' (sq rb roff n scap) ((yB F k).set k { x with phis := [] })):=SB.out.keep bE;have BE:Hid (Below w.heap.size w wE):=Bel.after BB.out bE;have ae:wE.cell? (Z w.heap.size 0)=some (.slice ba n bcap)∧wE.cell? (Z w.heap.size 1)=some (vi vals)∧wE.cell? (Z ng 0)=some (vi (t:Int)):=⟨Bel.keeps bE hHeld.1,Bel.keeps bE hHeld.2.1,Bel.keeps bE hHeld.2.2⟩;refine⟨_,rfl,B _ _ ⟨ae,?_⟩⟩
      (try simp only[Act.put,sT,sZ,sS])
      clear B hHeld ao bE SB BB;refine jg (i:=8) (o:=⟨some 51,.call ⟨.value (.func 109),#[.tmp 48,.tmp 50],#[158,3]⟩,158,"l10_plain.go:43",#[⟨5,.data⟩,⟨7,.data⟩,⟨5,.chain⟩],none⟩) rfl rfl (by kernel_rfl) (fun K9 B=>?_);refine jx (f:=109) (args := #[aV,vi vals]) (by go_simp) (aaV _ M0 vals _ a8.out ap.out) ?_;rintro e wG ⟨mv,rfl,hm1,bG⟩;rw[HL.out] at hm1;have OM:Hid (jd wG wE.heap.size mv L):=hm1;have SG:Hid (xD (fun _=>False) (w.heap.size+1+1) O w7 wG (vals+1) own' (sq rb roff n scap) ((yB F k).set k { x with phis := [] })):=SE.out.keep bG;have aB:wG.cell? (Z w.heap.size 0)=some (.slice ba n bcap)∧wG.cell? (Z w.heap.size 1)=some (vi vals)∧wG.cell? (Z ng 0)=some (vi (t:Int)):=⟨Bel.keeps bG ae.1,Bel.keeps bG ae.2.1,Bel.keeps bG ae.2.2⟩;refine⟨_,rfl,B _ _ ⟨aB,?_⟩⟩
      (try simp only[Act.put,sT,sZ,sS])
      have aq:Hid (∀g,mv.ownBlock=some g→3<(own' g).1∧g<wG.heap.size):=fun g hg=>by
       obtain⟨h1,h2⟩:=OM.out.lt g hg;refine⟨Nat.lt_of_not_le (fun h9=>?_),h2⟩;have:=SE.out.fn.high g h9;omega
      clear B ae hm1 bG SE BE;have hHeld:=aB;refine tkA 9 ⟨some 7,.assign (.tmp 51),158,"l10_plain.go:43",#[⟨8,.data⟩,⟨8,.chain⟩,⟨0,.phase⟩,⟨1,.phase⟩,⟨2,.phase⟩,⟨3,.phase⟩,⟨4,.phase⟩,⟨5,.phase⟩,⟨6,.phase⟩,⟨7,.phase⟩,⟨8,.phase⟩],none⟩ ?_ (fun w h=>?_) ?_;rotate_left
      ·(try dsimp only at h);go_simp;(try with_reducible rfl)
      try simp only[Act.put,sT,sZ,sS]
      refine wpAnyH_done (by kernel_rfl) ?_ _;try simp only[Exit.then]
      first | go_at_K | skip
      obtain⟨m,HML⟩:∃z,Hid (L.length=z):=⟨_,rfl⟩;obtain⟨ma,mcap,rfl⟩:∃a c,mv=.slice a m c:=OM.out.form HML.out;clear hHeld aB;have SX:Hid (xD (fun g=>(Value.slice ma m mcap).ownBlock=some g) (w.heap.size+1+1) O wG wG (vals+1) own' (sq rb roff n scap) ((yB F k).set k { x with phis := [] })):=SG.out.begin _ aq.out;go_wp2_with fail
      go_loopw [8] (fun i wr=>LowIn (fun g=>(Value.slice ma m mcap).ownBlock=some g) (w.heap.size+1+1) O wG (vals+1) F k x L (sq rb roff n scap) m i wr) (fun i _=>m-(intOf i).toNat)
      case atStart=>exact⟨0,own',Nat.zero_le _,rfl,by simpa using SX.out⟩
      case round=>
       obtain⟨wi,hwi⟩:∃x,x=wr:=⟨_,rfl⟩;subst hwi;obtain⟨j,own2,hj,rfl,hst⟩:=hrel;obtain⟨XL,HXL⟩:∃z,Hid (x.list ++ (L.take j).map ado=z):=⟨_,rfl⟩;rw[HXL.out] at hst;have SI:Hid (xD (fun g=>(Value.slice ma m mcap).ownBlock=some g) (w.heap.size+1+1) O wG wi (vals+1) own2 (sq rb roff n scap) ((yB F k).set k ⟨[],XL,x.term⟩)):=hst;clear hst SX;have mO:wi.cell? (Z O 0)=some (sq rb roff n scap):=(kH SI.out.box 0).trans rfl;by_cases bd:(j:Int)<(m:Int)
       ·have ac:Hid (j<m):=Int.ofNat_lt.1 bd;obtain⟨z,HZ⟩:∃z,Hid (L[j]?=some z):=⟨_,List.getElem?_eq_getElem (by rw[HML.out];exact ac.out)⟩;have bm:wrap64 ((j:Int)+1)=(j:Int)+1:=wrap_lt ac.out (by rw[←HML.out];exact Nat.le_trans ad.out (by decide));obtain⟨mg,e3⟩:=adh OM.out HML.out (Nat.lt_of_le_of_lt (Nat.zero_le _) ac.out);subst e3;obtain⟨z0,z1⟩:=OM.out.cellAt HZ.out;obtain⟨dd,ss⟩:=z;dsimp only at z0 z1;have aG:=(SI.out.off mg rfl).1;replace z0:=(jf aG _).trans z0;replace z1:=(jf aG _).trans z1;have ax:Hid (((yB F k).set k ⟨[],XL,x.term⟩)[k]?=some ⟨[],XL,x.term⟩):=List.getElem?_set_self (by rw[adq,HN.out];exact V.out);obtain⟨la,lc,l0,hlr,hle⟩:=ab2 SI.out.fn SI.out.rooms ax.out rfl;dsimp only at l0 hlr hle;obtain⟨q,HQ⟩:∃q,Hid (XL.length=q):=⟨_,rfl⟩;rw[HQ.out] at l0 hlr hle;have ak:Hid (0<q→∃g,la=some (Z g 0)∧own2 g=(2,k,0)∧∀(j:Nat) (y:kS),XL[j]?=some y→jU wi g (j*5) y):=hle;have a4:Hid (Jm wi la q lc):=hlr;have aH:q≤1000000:=low_room HXL.out HQ.out (Nat.le_trans (H.out.2.2.2.2 k x HX.out).2.1 (by decide)) ad.out;clear hle hlr aG;go_wp2_with fail
        obtain⟨wJ,hwJ⟩:∃W,wi.drew=W:=⟨_,rfl⟩;have hdr:Below wi.heap.size wi wJ:=by rw[←hwJ];exact(Below.refl _ wi).drew
        have SJ:Hid (xD (fun g=>(sq mg 0 m mcap).ownBlock=some g) (w.heap.size+1+1) O wG wJ (vals+1) own2 (sq rb roff n scap) ((yB F k).set k ⟨[],XL,x.term⟩)):=SI.out.keep hdr;have K:own2 rb=(0,0,0):=by
         obtain⟨bo,roff',cap',pv,lv,hv',hrb,_⟩:=SJ.out.fn.aez ax.out;simp at hv';rw[hv'.1.1];exact hrb
        obtain⟨v',w5',hrun,ho5,hb5,hz5,ah,hk5⟩:=add_one (w.heap.size+1+1) la q lc XL (ado ⟨dd,ss⟩) wJ HQ.out (a4.out.turn (fun h0=>by
         obtain⟨g,e,h2,_⟩:=ak.out h0
         exact⟨g,e,hdr.block g (SI.out.fn.high g (by rw[h2];simp))⟩)) (fun h0=>by
         obtain⟨g,e,h2,h3⟩:=ak.out h0;have hg:=SI.out.fn.high g (by rw[h2];simp)
         exact⟨g,e,SI.out.fn.low g (by rw[h2];simp),fun i x hx=>(h3 i x hx).same (hdr.block g hg)⟩) (by have h1:=SJ.out.bel.size;have h2:=SJ.out.lo;omega) aH
        obtain⟨va,vq,vc,e9⟩:∃a q c,v'=.slice a q c:=by
         obtain⟨a,c,e⟩:=ho5.form;exact⟨a,_,c,e⟩
        subst e9;have aa:mg<wJ.heap.size∧3<(own2 mg).1:=by
         obtain⟨_,h2,h3⟩:=SJ.out.off mg rfl;exact⟨Nat.lt_of_lt_of_le h3 SJ.out.bel.size,h2⟩
        have aw:Hid (∀g,g<wJ.heap.size→own2 g≠(2,k,0)→w5'.heap[g]?=wJ.heap[g]?):=fun g hg aT=>ah g hg (fun h0 e=>by
         obtain⟨g2,e2,h2,_⟩:=ak.out h0;rw[e] at e2;simp at e2;rw[←e2] at h2
         exact aT h2)
        have aR:wJ.heap[O]?=w5'.heap[O]?:=(aw.out O (aI SJ.out.box).1 (fun e=>by have:=SJ.out.out;rw[e] at this;simp at this)).symm;have aD:w5'.heap[rb]?=wJ.heap[rb]?:=aw.out rb (SJ.out.fn.high rb (by rw[K];simp)) (by rw[K];simp);have aQ:w5'.heap[mg]?=wJ.heap[mg]?:=aw.out mg aa.1 (fun e=>by have:=aa.2;rw[e] at this;simp at this);have an:∀w':World,w'.heap[O]?=wJ.heap[O]?→w'.heap[rb]?=wJ.heap[rb]?→w'.heap[mg]?=wJ.heap[mg]?→w'.cell? (Z O 0)=some (sq rb roff n scap)∧w'.cell? (Z rb (roff+k*6+1))=some (.slice la q lc)∧w'.cell? (Z mg (j*2))=some (vi dd)∧w'.cell? (Z mg (j*2+1))=some (vi ss):=fun w' h1 h2 h3=>
         ⟨(jf h1 _).trans (Bel.keeps hdr mO),(jf h2 _).trans (Bel.keeps hdr l0),(jf h3 _).trans (Bel.keeps hdr z0),(jf h3 _).trans (Bel.keeps hdr z1)⟩
        have aF:w5'.frozen? (Z rb (roff+k*6+1))=false:=(kQ aD _).trans (SJ.out.fn.aaz rb (by rw[K];simp) _)
        have X:=SJ.out.add ax.out (la:=la) (lc:=lc) (v':=.slice va vq vc) (y:=ado ⟨dd,ss⟩) (fun h0=>by
         obtain⟨g,e,h2,_⟩:=ak.out (by rw[←HQ.out];exact h0);exact⟨g,e,h2⟩) ho5 hb5 hz5 (fun g h1 h2=>ah g h1 (fun h0=>h2 (by rw[HQ.out];exact h0))) (fun g hg=>by
         rcases hk5 g hg with ⟨h1,h2⟩ | h1
         ·exact .inl ⟨by rw[HQ.out];exact h1,h2⟩
         ·exact .inr h1)
        rw[List.set_set] at X;have a7:Hid (xD (fun g=>(sq mg 0 m mcap).ownBlock=some g) (w.heap.size+1+1) O wG (w5'.setCell (Z rb (roff+k*6+1)) (.slice va vq vc)) (vals+1) (ad8 own2 (.slice va vq vc) k) (sq rb roff n scap) ((yB F k).set k ⟨[],XL ++ [ado ⟨dd,ss⟩],x.term⟩)):=X;have au:Hid (∀ty,(Builtin.append_ #[39,39] ty #[.slice la q lc,sq wJ.heap.size 0 1 1]).run Tryz.prog (wJ.alloc (.cells #[vi 25,vi dd,vi ss,vi 0,vi 0] 47))=.ok (.slice va vq vc) w5'):=hrun;have bc:Hid _:=an (wJ.alloc (.cells #[vi 25,vi dd,vi ss,vi 0,vi 0] 47)) (Below.heap_alloc _ _ _ (aI SJ.out.box).1) (Below.heap_alloc _ _ _ (SJ.out.fn.high rb (by rw[K];simp))) (Below.heap_alloc _ _ _ aa.1);have am:Hid _:=an w5' aR.symm aD aQ;have aC:Hid _:=an wJ rfl rfl rfl;clear hrun ho5 hb5 hz5 ah hk5 X aR aD aQ an z0 z1 l0 mO hdr;refine Y1 24 (fun w':World=>w'.cell? (Z O 0)=some (sq rb roff n scap)∧w'.cell? (Z rb (roff+k*6+1))=some (.slice la q lc)∧w'.cell? (Z mg (j*2))=some (vi dd)∧w'.cell? (Z mg (j*2+1))=some (vi ss)) (by kernel_rfl) ?_;rw[hwJ];clear hwJ;have hHeld:=aC.out;refine tkM 0 ⟨some 58,.fieldAddr 26 (.tmp 4) 0,0,"l10_plain.go:45",#[],none⟩ ?_ (fun w h=>?_) ?_;rotate_left
        ·(try dsimp only at h);go_simp;(try with_reducible rfl)
        try simp only[Act.put,sT,sZ,sS]
        refine tkM 1 ⟨some 59,.load 24 (.tmp 58),24,"l10_plain.go:45",#[⟨0,.data⟩],none⟩ ?_ (fun w h=>?_) ?_;rotate_left
        ·(try dsimp only at h);go_simp;(try with_reducible rfl)
        try simp only[Act.put,sT,sZ,sS]
        refine tkM 2 ⟨some 60,.move (.tmp 5),3,"l10_plain.go:45",#[],none⟩ ?_ (fun w h=>?_) ?_;rotate_left
        ·(try dsimp only at h);go_simp;(try with_reducible rfl)
        try simp only[Act.put,sT,sZ,sS]
        refine tkM 3 ⟨some 61,.fieldAddr 26 (.tmp 4) 0,0,"l10_plain.go:45",#[],none⟩ ?_ (fun w h=>?_) ?_;rotate_left
        ·(try dsimp only at h);go_simp;(try with_reducible rfl)
        try simp only[Act.put,sT,sZ,sS]
        refine tkM 4 ⟨some 62,.load 24 (.tmp 61),24,"l10_plain.go:45",#[⟨3,.data⟩],none⟩ ?_ (fun w h=>?_) ?_;rotate_left
        ·(try dsimp only at h);go_simp;(try with_reducible rfl)
        try simp only[Act.put,sT,sZ,sS]
        refine tkM 5 ⟨some 63,.move (.tmp 5),3,"l10_plain.go:45",#[],none⟩ ?_ (fun w h=>?_) ?_;rotate_left
        ·(try dsimp only at h);go_simp;(try with_reducible rfl)
        try simp only[Act.put,sT,sZ,sS]
        refine tkM 6 ⟨some 64,.indexAddr 24 (.tmp 62) (.tmp 63),0,"l10_plain.go:45",#[⟨4,.data⟩,⟨5,.data⟩],none⟩ ?_ (fun w h=>?_) ?_;rotate_left
        ·(try dsimp only at h);go_simp;(try with_reducible rfl)
        try simp only[Act.put,sT,sZ,sS]
        refine tkM 7 ⟨some 65,.fieldAddr 43 (.tmp 64) 1,0,"l10_plain.go:45",#[⟨6,.data⟩],none⟩ ?_ (fun w h=>?_) ?_;rotate_left
        ·(try dsimp only at h);go_simp;(try with_reducible rfl)
        try simp only[Act.put,sT,sZ,sS]
        refine tkM 8 ⟨some 66,.load 39 (.tmp 65),39,"l10_plain.go:45",#[⟨7,.data⟩],none⟩ ?_ (fun w h=>?_) ?_;rotate_left
        ·(try dsimp only at h);go_simp;(try with_reducible rfl)
        try simp only[Act.put,sT,sZ,sS]
        refine tkM 9 ⟨some 67,.move (.tmp 7),158,"l10_plain.go:45",#[],none⟩ ?_ (fun w h=>?_) ?_;rotate_left
        ·(try dsimp only at h);go_simp;(try with_reducible rfl)
        try simp only[Act.put,sT,sZ,sS]
        refine tkM 10 ⟨some 68,.move (.tmp 8),3,"l10_plain.go:45",#[],none⟩ ?_ (fun w h=>?_) ?_;rotate_left
        ·(try dsimp only at h);go_simp;(try with_reducible rfl)
        try simp only[Act.put,sT,sZ,sS]
        refine tkM 11 ⟨some 69,.indexAddr 158 (.tmp 67) (.tmp 68),0,"l10_plain.go:45",#[⟨9,.data⟩,⟨10,.data⟩],none⟩ ?_ (fun w h=>?_) ?_;rotate_left
        ·(try dsimp only at h);go_simp;(try with_reducible rfl)
        try simp only[Act.put,sT,sZ,sS]
        refine tkM 12 ⟨some 70,.fieldAddr 162 (.tmp 69) 0,0,"l10_plain.go:45",#[⟨11,.data⟩],none⟩ ?_ (fun w h=>?_) ?_;rotate_left
        ·(try dsimp only at h);go_simp;(try with_reducible rfl)
        try simp only[Act.put,sT,sZ,sS]
        refine tkM 13 ⟨some 71,.load 3 (.tmp 70),3,"l10_plain.go:45",#[⟨12,.data⟩],none⟩ ?_ (fun w h=>?_) ?_;rotate_left
        ·(try dsimp only at h);go_simp;(try with_reducible rfl)
        try simp only[Act.put,sT,sZ,sS]
        refine tkM 14 ⟨some 72,.move (.tmp 7),158,"l10_plain.go:45",#[],none⟩ ?_ (fun w h=>?_) ?_;rotate_left
        ·(try dsimp only at h);go_simp;(try with_reducible rfl)
        try simp only[Act.put,sT,sZ,sS]
        refine tkM 15 ⟨some 73,.move (.tmp 8),3,"l10_plain.go:45",#[],none⟩ ?_ (fun w h=>?_) ?_;rotate_left
        ·(try dsimp only at h);go_simp;(try with_reducible rfl)
        try simp only[Act.put,sT,sZ,sS]
        refine tkM 16 ⟨some 74,.indexAddr 158 (.tmp 72) (.tmp 73),0,"l10_plain.go:45",#[⟨14,.data⟩,⟨15,.data⟩],none⟩ ?_ (fun w h=>?_) ?_;rotate_left
        ·(try dsimp only at h);go_simp;(try with_reducible rfl)
        try simp only[Act.put,sT,sZ,sS]
        refine tkM 17 ⟨some 75,.fieldAddr 162 (.tmp 74) 1,0,"l10_plain.go:45",#[⟨16,.data⟩],none⟩ ?_ (fun w h=>?_) ?_;rotate_left
        ·(try dsimp only at h);go_simp;(try with_reducible rfl)
        try simp only[Act.put,sT,sZ,sS]
        refine tkM 18 ⟨some 76,.load 3 (.tmp 75),3,"l10_plain.go:45",#[⟨17,.data⟩],none⟩ ?_ (fun w h=>?_) ?_;rotate_left
        ·(try dsimp only at h);go_simp;(try with_reducible rfl)
        try simp only[Act.put,sT,sZ,sS]
        refine tkM 19 ⟨some 77,.build 47 #[(0,.const (vi 25)),(1,.tmp 71),(2,.tmp 76)],47,"l10_plain.go:45",#[⟨13,.data⟩,⟨18,.data⟩],none⟩ ?_ (fun w h=>?_) ?_;rotate_left
        ·(try dsimp only at h);go_simp;(try with_reducible rfl)
        try simp only[Act.put,sT,sZ,sS]
        refine kW (i:=20) (o:=⟨some 78,.buildSlice 39 1 #[(0,.tmp 77)],39,"l10_plain.go:45",#[⟨19,.data⟩],none⟩) rfl rfl (by kernel_rfl) (fun K9 B=>?_);refine jC (v:=sq wJ.heap.size 0 1 1) (w':=wJ.alloc (.cells #[vi 25,vi dd,vi ss,vi 0,vi 0] 47)) (by simp[execOp,Instr.buildSlice,go_sem]) (B _ _ ⟨fun _=>bc.out,?_⟩)
        (try simp only[Act.put,sT,sZ,sS])
        clear B hHeld;refine kW (i:=21) (o:=⟨some 79,.call ⟨.builtin .append,#[.tmp 66,.tmp 78],#[39,39]⟩,39,"l10_plain.go:45",#[⟨8,.data⟩,⟨20,.data⟩],none⟩) rfl rfl (by kernel_rfl) (fun K9 B=>?_);refine jC (XX rfl (by rfl) (by rfl) (au.out _)) (B _ _ ⟨fun _=>am.out,?_⟩)
        (try simp only[Act.put,sT,sZ,sS])
        clear B;have hHeld:=am.out;refine kW (i:=22) (o:=⟨some 80,.indexAddr 24 (.tmp 59) (.tmp 60),0,"l10_plain.go:45",#[⟨1,.data⟩,⟨2,.data⟩,⟨0,.phase⟩,⟨1,.phase⟩,⟨2,.phase⟩,⟨3,.phase⟩,⟨4,.phase⟩,⟨5,.phase⟩,⟨6,.phase⟩,⟨7,.phase⟩,⟨8,.phase⟩,⟨9,.phase⟩,⟨10,.phase⟩,⟨11,.phase⟩,⟨12,.phase⟩,⟨13,.phase⟩,⟨14,.phase⟩,⟨15,.phase⟩,⟨16,.phase⟩,⟨17,.phase⟩,⟨18,.phase⟩,⟨19,.phase⟩,⟨20,.phase⟩,⟨21,.phase⟩],none⟩) rfl rfl (by kernel_rfl) (fun K9 B=>?_);refine jC (v:=.pointer (some (Z rb (roff+k*6)))) (w':=w5') (by first | (go_simp;done) | (go_simp;with_reducible rfl)) (B _ _ ⟨fun _=>am.out,?_⟩)
        (try simp only[Act.put,sT,sZ,sS])
        clear B;refine tkM 23 ⟨some 81,.fieldAddr 43 (.tmp 80) 1,0,"l10_plain.go:45",#[⟨22,.data⟩,⟨0,.phase⟩,⟨1,.phase⟩,⟨2,.phase⟩,⟨3,.phase⟩,⟨4,.phase⟩,⟨5,.phase⟩,⟨6,.phase⟩,⟨7,.phase⟩,⟨8,.phase⟩,⟨9,.phase⟩,⟨10,.phase⟩,⟨11,.phase⟩,⟨12,.phase⟩,⟨13,.phase⟩,⟨14,.phase⟩,⟨15,.phase⟩,⟨16,.phase⟩,⟨17,.phase⟩,⟨18,.phase⟩,⟨19,.phase⟩,⟨20,.phase⟩,⟨21,.phase⟩],none⟩ ?_ (fun w h=>?_) ?_;rotate_left
        ·(try dsimp only at h);go_simp;(try with_reducible rfl)
        try simp only[Act.put,sT,sZ,sS]
        refine kW (i:=24) (o:=⟨none,.store 39 (.tmp 81) (.tmp 79),0,"l10_plain.go:45",#[⟨23,.data⟩,⟨21,.data⟩,⟨21,.chain⟩,⟨0,.phase⟩,⟨1,.phase⟩,⟨2,.phase⟩,⟨3,.phase⟩,⟨4,.phase⟩,⟨5,.phase⟩,⟨6,.phase⟩,⟨7,.phase⟩,⟨8,.phase⟩,⟨9,.phase⟩,⟨10,.phase⟩,⟨11,.phase⟩,⟨12,.phase⟩,⟨13,.phase⟩,⟨14,.phase⟩,⟨15,.phase⟩,⟨16,.phase⟩,⟨17,.phase⟩,⟨18,.phase⟩,⟨19,.phase⟩,⟨20,.phase⟩,⟨21,.phase⟩],none⟩) rfl rfl (by kernel_rfl) (fun K9 B=>?_);have aP:=am.out.2.1;refine Jy (w':=w5'.setCell (Z rb (roff+k*6+1)) (.slice va vq vc)) (by simp[execOp,go_sem,aP,aF]) (B _ _ ⟨fun h=>absurd rfl h,?_⟩)
        (try simp only[Act.put])
        clear B aP;refine zq (by kernel_rfl) ?_ _;try simp only[Exit.then]
        first | go_at_K | skip
        go_wp2_with fail
        try rw[bm]
        go_roundw
        case rel=>
         refine⟨j+1,_,ac.out,XV j,a7.out.congr ?_⟩;rw[←HXL.out,List.take_add_one,HZ.out];simp
        case measure=>exact XW ac.out
       ·have a9:j=m:=by omega
        subst a9;have ar:Hid (xD (fun _=>False) (w.heap.size+1+1) O w7 wi (vals+1) own2 (sq rb roff n scap) (yB F (k+1))):=by
         refine(SI.out.back SG.out.bel SG.out.lo).congr ?_;rw[←abv HX.out,←HXL.out,List.take_of_length_le (by rw[HML.out];exact Nat.le_refl _)];unfold lowX;rw[I.out]
        go_wp2_with fail
        try rw[aU]
        go_roundw
        case rel=>exact⟨k+1,own2,V.out,XV k,ar.out⟩
        case measure=>exact XW V.out
     ·have aT:((nl:Int) == 1)=false:=by rw[beq_eq_false_iff_ne];omega
      have I:Hid (adp F k = []):=by
       show _=_;unfold adp;rw[HNX.out];rcases NX with _ | ⟨a,_ | ⟨b,r⟩⟩
       ·rfl
       ·exact absurd HNL.out (fun e=>ag e.symm)
       ·rfl
      go_wp2_with fail
      try rw[aU]
      go_roundw
      case rel=>
       refine⟨k+1,own',V.out,XV k,S8.out.congr ?_⟩;rw[←abv HX.out];unfold lowX;rw[I.out,List.append_nil]
      case measure=>exact XW V.out
    ·have bb:k=n:=by omega
     subst bb;have aK:Hid ((agm F).blocks=yB F k):=by
      show yB F F.blocks.length=_;rw[HN.out]
     have aL:Hid ((agm F).values=vals+1):=by
      show F.values+1=_;rw[HV.out]
     have aj:Hid (FnO (w.heap.size+1+1) own' wq (sq rb roff k scap) (agm F).blocks):=by
      show FnO _ _ _ _ _;rw[aK.out];exact ST.out.fn
     have aZ:Hid (kJ wq (.agg #[sq rb roff k scap,vi (vals+1)]) (agm F)):=qt.low (Nat.zero_le _) (aj.out.fnAt aL.out);have m1:wq.cell? (Z O 1)=some (vi (vals+1)):=(kH ST.out.box 1).trans rfl;go_wp2_with fail
     refine(Ky _ _ _ aZ.out).mono ?_;rintro e w8 ⟨t,rfl,ht,b8⟩;have HT:Hid (t=true↔jm (agm F)):=ht;have Rq:Hid (wq.heap[w.heap.size+1]?=some (.cells #[.slice none 0 0,vi 0] 26 (0,0))):=(ST.out.bel.block _ (by omega)).trans R7.out;have bu:=b8.size;have R8:Hid (w8.heap[w.heap.size+1]?=some (.cells #[.slice none 0 0,vi 0] 26 (0,0))):=(b8.block _ (by omega)).trans Rq.out;have B8:Hid (Below w.heap.size w w8):=Bel.after Bq.out b8;have aX:Hid (ab1 own' w8 (sq rb roff k scap) (agm F).blocks):=by
      have h9:=ST.out.rooms.caps;rw[←aK.out] at h9;exact h9.same (fun g hg=>b8.block g (aj.out.high g (by rw[hg];simp)))
     have a5:Hid (∀g,own' g=(0,0,0)→g≠w.heap.size+1):=fun g hg e=>by
      have h9:=aj.out.low g (by rw[hg];simp);omega
     have aY:Hid (FnO (w.heap.size+1+1) own' w8 (sq rb roff k scap) (agm F).blocks):=aj.out.keep b8;replace mO:=Bel.keeps b8 mO;replace m1:=Bel.keeps b8 m1;have y0:w8.cell? (Z (w.heap.size+1) 0)=some (.slice none 0 0):=(kH R8.out 0).trans rfl;have y1:w8.cell? (Z (w.heap.size+1) 1)=some (vi 0):=(kH R8.out 1).trans rfl;have z0:=KO R8.out 0;have z1:=KO R8.out 1;clear b8 ht q0 q1;cases t
     ·have G:Hid (¬Kr F):=fun h=>by
       have:=HT.out.2 h.2.2;cases this
      obtain⟨r0,r1,hF6,hB6⟩:=zz (w:=w) (vals:=0) (ba:=none) (n:=0) (bcap:=0) (F:=⟨[],0⟩) (own:=fun _=>(9,0,0)) (by omega) R8.out (abP rfl none 0) B8.out;have U:Hid (FnO w.heap.size _ _ (.slice none 0 0) ([]:List jc)):=hF6;have M:Hid (Below w.heap.size w _):=hB6;clear hF6 hB6;go_wp2_with fail
      refine bodyPost_ret (v:=.tuple #[.agg #[.slice none 0 0,vi 0],.bool false]) (by simp[results,Tryz.results85,go_sem,r0,r1]) rfl ?_;exact⟨_,_,by rw[(yP G.out).1,(yP G.out).2],by rw[(yP G.out).1];exact U.out,by rw[(yP G.out).1];exact ab1.nil _ _,M.out⟩
     ·have J:Hid (Kr F):=⟨HCK.out,aW.out,HT.out.1 rfl⟩;obtain⟨r0,r1,hF6,hB6⟩:=zz (w:=w) (vals:=vals+1) (F:=agm F) (by omega) R8.out aY.out B8.out;have U:Hid (FnO w.heap.size own' _ (sq rb roff k scap) (agm F).blocks):=hF6;have M:Hid (Below w.heap.size w _):=hB6;clear hF6 hB6;go_wp2_with fail
      refine bodyPost_ret (v:=.tuple #[.agg #[sq rb roff k scap,vi (vals+1)],.bool true]) (by simp[results,Tryz.results85,go_sem,r0,r1]) rfl ?_;exact⟨_,own',by rw[(YX J.out).1,(YX J.out).2,aL.out],by rw[(YX J.out).1];exact U.out,by rw[(YX J.out).1];exact aX.out.same (fun g hg=>by first|rfl|exact box_off2 _ _ _ _ (a5.out g hg)),M.out⟩
  ·have G:Hid (¬Kr F):=fun h=>by
    have h1:=HM.out;rw[←aJ.out,h.2.1] at h1;exact aS (by simpa using h1.symm)
   have bq:(0:Int)<(m:Int):=by omega
   have y0:w5.cell? (Z (w.heap.size+1) 0)=some (.slice none 0 0):=(kH R5.out 0).trans rfl;have y1:w5.cell? (Z (w.heap.size+1) 1)=some (vi 0):=(kH R5.out 1).trans rfl;have z0:=KO R5.out 0;have z1:=KO R5.out 1;obtain⟨r0,r1,hF6,hB6⟩:=zz (w:=w) (vals:=0) (ba:=none) (n:=0) (bcap:=0) (F:=⟨[],0⟩) (own:=fun _=>(9,0,0)) (by omega) R5.out (abP rfl none 0) B5.out;have U:Hid (FnO w.heap.size _ _ (.slice none 0 0) ([]:List jc)):=hF6;have M:Hid (Below w.heap.size w _):=hB6;clear hF6 hB6;go_wp2_with fail
   refine bodyPost_ret (v:=.tuple #[.agg #[.slice none 0 0,vi 0],.bool false]) (by simp[results,Tryz.results85,go_sem,r0,r1]) rfl ?_;exact⟨_,_,by rw[(yP G.out).1,(yP G.out).2],by rw[(yP G.out).1];exact U.out,by rw[(yP G.out).1];exact ab1.nil _ _,M.out⟩
 ·have G:Hid (¬Kr F):=fun h=>aE (HCK.out.symm.trans h.1)
  have hb:(ck == 0)=false:=by simpa using aE
  have y0:w4.cell? (Z (w.heap.size+1) 0)=some (.slice none 0 0):=(kH R4.out 0).trans rfl;have y1:w4.cell? (Z (w.heap.size+1) 1)=some (vi 0):=(kH R4.out 1).trans rfl;have z0:=KO R4.out 0;have z1:=KO R4.out 1;obtain⟨r0,r1,hF6,hB6⟩:=zz (w:=w) (vals:=0) (ba:=none) (n:=0) (bcap:=0) (F:=⟨[],0⟩) (own:=fun _=>(9,0,0)) (by omega) R4.out (abP rfl none 0) B4.out;have U:Hid (FnO w.heap.size _ _ (.slice none 0 0) ([]:List jc)):=hF6;have M:Hid (Below w.heap.size w _):=hB6;clear hF6 hB6;go_wp2_with fail
  refine bodyPost_ret (v:=.tuple #[.agg #[.slice none 0 0,vi 0],.bool false]) (by simp[results,Tryz.results85,go_sem,r0,r1]) rfl ?_;exact⟨_,_,by rw[(yP G.out).1,(yP G.out).2],by rw[(yP G.out).1];exact U.out,by rw[(yP G.out).1];exact ab1.nil _ _,M.out⟩
end Go.Proofs.YtkbhbekfniadhaaGreat
