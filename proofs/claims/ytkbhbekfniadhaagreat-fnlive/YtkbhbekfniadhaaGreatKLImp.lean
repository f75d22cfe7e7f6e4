/- The program's LiveIn and LiveOut. -/
import Derived.Test.YtkbhbekfniadhaaGreatTk0
import Derived.Test.YtkbhbekfniadhaaGreatKLs
set_option maxRecDepth 100000
set_option maxHeartbeats 4000000
namespace Go.Proofs.YtkbhbekfniadhaaGreat
open Go.ChangeShapes Go.WideShapes Go.ChangeAt Go.RowKit Go.Shelf
set_option linter.unusedVariables false
structure ahn (w:World)(lo g n:Nat)(us:Array Value)(ls:Nat→List Int):Prop where
 box:w.heap[g]?=some (.cells us 74 (0,0))
 size:us.size=n
 row:∀i,i<n→ja w lo (us.getD i (.slice none 0 0)) (ls i)
 apart:∀i j,i<n→j<n→i≠j→af3 (us.getD i (.slice none 0 0)) (us.getD j (.slice none 0 0))
theorem jA.setsI {w:World}{lo gI gO n:Nat}{us vs:Array Value}{ins outs:Nat→List Int}(h:jA w lo gI gO n us vs ins outs):ahn w lo gI n us ins :=
 ⟨h.boxI,h.sizeI,h.rowI,fun i j hi hj r k hk=>h.apart true true i j hi hj (by simpa using r) k hk⟩
theorem jA.setsO {w:World}{lo gI gO n:Nat}{us vs:Array Value}{ins outs:Nat→List Int}(h:jA w lo gI gO n us vs ins outs):ahn w lo gO n vs outs :=
 ⟨h.boxO,h.sizeO,h.rowO,fun i j hi hj r k hk=>h.apart false false i j hi hj (by simpa using r) k hk⟩
theorem ahn.cell {w:World}{lo g n:Nat}{us:Array Value}{ls:Nat→List Int}(h:ahn w lo g n us ls){i:Nat}(hi:i<n):w.cell? (Z g i)=some (us.getD i (.slice none 0 0)):=by
 have:i<us.size:=by rw[h.size];exact hi
 simp[World.cell?,h.box,this]
theorem ja.form {w:World}{lo:Nat}{v:Value}{l:List Int}(h:ja w lo v l):∃a m c,v=.slice a m c:=by
 rcases h.2 with ⟨h0,_⟩ | ⟨g9,c9,cur,hv,_⟩
 ·exact⟨_,_,_,h0⟩
 ·exact⟨_,_,_,hv⟩
def ah7 (w:World)(g n:Nat)(us:Array Value)(k:Nat):Prop := ∃vs:Array Value,w.heap[g]?=some (.cells vs 30 (0,0))∧vs.size=n∧∀i,i<k→vs.getD i (.slice none 0 0)=us.getD i (.slice none 0 0)
theorem ah7.cell {w:World}{g n k:Nat}{us:Array Value}(h:ah7 w g n us k){i:Nat}(hi:i<n):(∃u,w.cell? (Z g i)=some u)∧w.frozen? (Z g i)=false:=by
 obtain⟨vs,h1,h2,_⟩:=h;have:i<vs.size:=by omega
 exact⟨⟨vs[i],by simp[World.cell?,h1,this]⟩,by simp[World.frozen?,h1]⟩
theorem ah7.lt {w:World}{g n k:Nat}{us:Array Value}(h:ah7 w g n us k):g<w.heap.size:=by
 obtain⟨vs,h1,_⟩:=h;exact(aI h1).1
theorem ah7.keep {w w':World}{g n k:Nat}{us:Array Value}(h:ah7 w g n us k)(hb:Below w.heap.size w w'):ah7 w' g n us k:=by
 obtain⟨vs,h1,h2,h3⟩:=h;exact⟨vs,(hb.block g (aI h1).1).trans h1,h2,h3⟩
theorem ah7.put {w:World}{g n k:Nat}{us:Array Value}(h:ah7 w g n us k)(hk:k<n){v:Value}(hv:us.getD k (.slice none 0 0)=v):ah7 (w.setCell (Z g k) v) g n us (k+1):=by
 obtain⟨vs,h1,h2,h3⟩:=h;refine⟨vs.setIfInBounds k v,?_,by simpa using h2,fun i hi=>?_⟩
 ·obtain⟨r,hk⟩:=aI h1;show(w.heap.modify g _)[g]?=_;rw[Array.getElem?_eq_getElem (by rw[Array.size_modify];exact r),Array.getElem_modify_self,hk]
  rfl
 ·have e:=@Ja vs k i v (by omega);unfold Qw at e;rw[e];by_cases e2:i=k
  ·subst e2;rw[if_pos rfl,hv]
  ·rw[if_neg e2];exact h3 i (by omega)
theorem ah7.rows {w0 w:World}{lo g gX n:Nat}{us:Array Value}{ls:Nat→List Int}(h:ah7 w g n us n)(hs:ahn w0 lo gX n us ls)(hb:Below w0.heap.size w0 w)(hl:lo≤g):∃vs,q6 w lo g n vs ls:=by
 obtain⟨vs,h1,h2,h3⟩:=h;refine⟨vs,h1,by omega,hl,fun i hi=>?_,fun i j hi hj r=>?_⟩
 ·rw[h3 i hi];exact(hs.row i hi).keep hb
 ·rw[h3 i hi,h3 j hj];exact hs.apart i j hi hj r
theorem aih (u v:Value)(w:World):(Instr.field 63 (.agg #[u,v]) 0).run Tryz.prog w=.ok u w:=by kernel_rfl
theorem afI (u v:Value)(w:World):(Instr.field 63 (.agg #[u,v]) 1).run Tryz.prog w=.ok v w:=by kernel_rfl
def GivesHds (w:World)(lo n:Nat)(ls:Nat→List Int)(e:Ending)(w':World):Prop := ∃g vs,e=.returned (sq g 0 n n)∧q6 w' lo g n vs ls∧Below w.heap.size w w'
theorem aia (gX lo n:Nat)(us:Array Value)(ls:Nat→List Int)(w:World)(hs:ahn w lo gX n us ls)(hlo:lo≤w.heap.size)(hn:n≤16) :
  Calls Tryz.prog 38 #[sq gX 0 n n] w fun e w'=>GivesHds w lo n ls e w':=by
 have HS:Hid (ahn w lo gX n us ls):=hs;have B:gX<w.heap.size:=(aI hs.box).1;clear hs;have t:=aiG n (by omega) w;obtain⟨wA,hwA⟩:∃wA,w.alloc (.cells (madeCells #[.slice none 0 0] n) 30)=wA:=⟨_,rfl⟩;rw[hwA] at t;have BA:Hid (Below w.heap.size w wA):=by rw[←hwA];exact Bel.alloc _ _
 have DA:Hid (ah7 wA w.heap.size n us 0):=by
  have h9:=(aiu (w:=w) (n:=n) rfl (Nat.le_refl _)).box;rw[hwA] at h9;exact⟨_,h9,aij n,fun i hi=>absurd hi (by omega)⟩
 clear hwA;go_enter Tryz.func38,Tryz.ntmps38
 go_wp2_with fail
 go_loopw [11] (fun i wr=>∃(k:Nat),k≤n∧i=vi k∧ah7 wr w.heap.size n us k∧Below w.heap.size w wr) (fun i _=>n-(intOf i).toNat)
 case atStart=>exact⟨0,Nat.zero_le _,rfl,DA.out,BA.out⟩
 case round=>
  obtain⟨wq,hwq⟩:∃x,x=wr:=⟨_,rfl⟩;subst hwq;obtain⟨k,hk,rfl,hd,hb⟩:=hrel;have HD:Hid (ah7 wq w.heap.size n us k):=hd;have HB:Hid (Below w.heap.size w wq):=hb;have G:=hd.lt;clear hd hb;by_cases H:(k:Int)<(n:Int)
  ·have h:k<n:=by omega
   obtain⟨ua,ul,uc,hu⟩:=(HS.out.row k h).form;have HU:Hid (us.getD k (.slice none 0 0)=.slice ua ul uc):=hu;clear hu;have q0:wq.cell? (Z gX k)=some (.slice ua ul uc):=by rw[←HU.out];exact Bel.keeps HB.out (HS.out.cell h)
   obtain⟨wC,hwC⟩:∃wC,wq.alloc (.cells #[.slice ua ul uc] 74)=wC:=⟨_,rfl⟩;have DC:Hid (ah7 wC w.heap.size n us k):=by rw[←hwC];exact HD.out.keep (Bel.alloc _ _)
   have BC:Hid (Below w.heap.size w wC):=by rw[←hwC];exact Bel.after HB.out (Bel.alloc _ _)
   obtain⟨⟨uo,q1⟩,q2⟩:=DC.out.cell h;have q3:wC.cell? (Z wq.heap.size 0)=some (.slice ua ul uc):=by rw[←hwC];simp[go_sem]
   go_wp2_with fail
   go_roundw
   case rel=>exact⟨k+1,by omega,by simp,DC.out.put h HU.out,BC.out.setCell (p:=(Z w.heap.size k)) (Nat.le_refl _) _⟩
   case measure=>simp[intOf];omega
  ·have r:n=k:=by omega
   subst r;go_wp2_with fail
   go_ret;obtain⟨vs,hr⟩:=HD.out.rows HS.out HB.out hlo;exact⟨w.heap.size,vs,rfl,hr,HB.out⟩
theorem aiw (v:Value)(F:FnD)(w:World)(hF:kJ w v F) :
  Calls Tryz.prog 10 #[v] w fun e w'=>ah9 w (q7 F) e w':=by
 have HF:Hid (kJ w v F):=hF;obtain⟨n,HN⟩:∃n,Hid (F.blocks.length=n):=⟨_,rfl⟩;obtain⟨vals,HV⟩:∃x,Hid (F.values=x):=⟨_,rfl⟩;obtain⟨ba,bcap,rfl⟩:=hF.out HN.out HV.out;clear hF;go_enter Tryz.func10,Tryz.ntmps10
 go_wp2_with fail
 obtain⟨wA,hwA⟩:∃wA,w.alloc (.cells #[.slice ba n bcap,vi vals] 26)=wA:=⟨_,rfl⟩;have BA:Hid (Below w.heap.size w wA):=by rw[←hwA];exact Bel.alloc _ _
 have a0:wA.cell? (Z w.heap.size 0)=some (.slice ba n bcap):=by rw[←hwA];simp[go_sem]
 have a1:wA.cell? (Z w.heap.size 1)=some (vi vals):=by rw[←hwA];simp[go_sem]
 rw[hwA];clear hwA;refine(Yx _ F _ (HF.out.later BA.out)).mono ?_;rintro e w2 ⟨s,rfl,hs,b2⟩;have HS:Hid (s=true↔qg F):=hs;have B2:Hid (Below w.heap.size w w2):=Bel.after BA.out b2;have c0:=Bel.keeps b2 a0;have c1:=Bel.keeps b2 a1;clear hs b2 a0 a1;cases s
 ·have HE:Hid (q7 F = []):=ah2 (fun h=>by have:=HS.out.2 h;cases this);go_wp2_with fail
  go_ret;rw[HE.out];exact⟨_,rfl,ah5 rfl B2.out.size,B2.out.trans (Bel.aeX _ _ B2.out.size)⟩
 ·have hp:qg F:=HS.out.1 rfl;have HP:Hid (qg F):=hp;obtain⟨n',V',hv⟩:=ZR hp;have en:n'=n:=hv.len.symm.trans HN.out;subst en;have r:Hid (Je F n' V'):=hv;have h1:=hv.n1;have t:=hv.n16;clear hp hv;go_wp2_with fail
  refine(ZQ _ F _ (HF.out.later B2.out) n' HN.out h1 t r.out.takes r.out.su).mono ?_;rintro e w3 ⟨gI,gO,us,vs,rfl,hne,b3⟩;have B:Hid (jA w3 w2.heap.size gI gO n' us vs (qz F) (yT F (qz F))):=hne;have B3:Hid (Below w2.heap.size w2 w3):=b3;clear hne b3;have hf0:=aih (sq gI 0 n' n') (sq gO 0 n' n') w3;have hf1:=afI (sq gI 0 n' n') (sq gO 0 n' n') w3;go_wp2_with fail
  refine(aia _ w2.heap.size n' _ _ w3 B.out.setsI B3.out.size t).mono ?_;rintro e w4 ⟨g,xs,rfl,hr,b4⟩;have HR:Hid (q6 w4 w2.heap.size g n' xs _):=hr;have B4:Hid (Below w3.heap.size w3 w4):=b4;clear hr b4;go_wp2_with fail
  go_ret;rw[ah1 HP.out,HN.out];exact⟨_,rfl,ah8 (HR.out.lower B2.out.size),Bel.after (Bel.after B2.out B3.out) B4.out⟩
theorem ait (v:Value)(F:FnD)(w:World)(hF:kJ w v F) :
  Calls Tryz.prog 11 #[v] w fun e w'=>ah9 w (x6 F) e w':=by
 have HF:Hid (kJ w v F):=hF;obtain⟨n,HN⟩:∃n,Hid (F.blocks.length=n):=⟨_,rfl⟩;obtain⟨vals,HV⟩:∃x,Hid (F.values=x):=⟨_,rfl⟩;obtain⟨ba,bcap,rfl⟩:=hF.out HN.out HV.out;clear hF;go_enter Tryz.func11,Tryz.ntmps11
 go_wp2_with fail
 obtain⟨wA,hwA⟩:∃wA,w.alloc (.cells #[.slice ba n bcap,vi vals] 26)=wA:=⟨_,rfl⟩;have BA:Hid (Below w.heap.size w wA):=by rw[←hwA];exact Bel.alloc _ _
 have a0:wA.cell? (Z w.heap.size 0)=some (.slice ba n bcap):=by rw[←hwA];simp[go_sem]
 have a1:wA.cell? (Z w.heap.size 1)=some (vi vals):=by rw[←hwA];simp[go_sem]
 rw[hwA];clear hwA;refine(Yx _ F _ (HF.out.later BA.out)).mono ?_;rintro e w2 ⟨s,rfl,hs,b2⟩;have HS:Hid (s=true↔qg F):=hs;have B2:Hid (Below w.heap.size w w2):=Bel.after BA.out b2;have c0:=Bel.keeps b2 a0;have c1:=Bel.keeps b2 a1;clear hs b2 a0 a1;cases s
 ·have HE:Hid (x6 F = []):=ah6 (fun h=>by have:=HS.out.2 h;cases this);go_wp2_with fail
  go_ret;rw[HE.out];exact⟨_,rfl,ah5 rfl B2.out.size,B2.out.trans (Bel.aeX _ _ B2.out.size)⟩
 ·have hp:qg F:=HS.out.1 rfl;have HP:Hid (qg F):=hp;obtain⟨n',V',hv⟩:=ZR hp;have en:n'=n:=hv.len.symm.trans HN.out;subst en;have r:Hid (Je F n' V'):=hv;have h1:=hv.n1;have t:=hv.n16;clear hp hv;go_wp2_with fail
  refine(ZQ _ F _ (HF.out.later B2.out) n' HN.out h1 t r.out.takes r.out.su).mono ?_;rintro e w3 ⟨gI,gO,us,vs,rfl,hne,b3⟩;have B:Hid (jA w3 w2.heap.size gI gO n' us vs (qz F) (yT F (qz F))):=hne;have B3:Hid (Below w2.heap.size w2 w3):=b3;clear hne b3;have hf0:=aih (sq gI 0 n' n') (sq gO 0 n' n') w3;have hf1:=afI (sq gI 0 n' n') (sq gO 0 n' n') w3;go_wp2_with fail
  refine(aia _ w2.heap.size n' _ _ w3 B.out.setsO B3.out.size t).mono ?_;rintro e w4 ⟨g,xs,rfl,hr,b4⟩;have HR:Hid (q6 w4 w2.heap.size g n' xs _):=hr;have B4:Hid (Below w3.heap.size w3 w4):=b4;clear hr b4;go_wp2_with fail
  go_ret;rw[ah3 HP.out,HN.out];exact⟨_,rfl,ah8 (HR.out.lower B2.out.size),Bel.after (Bel.after B2.out B3.out) B4.out⟩
end Go.Proofs.YtkbhbekfniadhaaGreat
