/- Proved: What is needed at the ends and beginnings of the blocks of a drawn plain program. -/
import Derived.Test.YtkbhbekfniadhaaGreatTkK
import Derived.Test.YtkbhbekfniadhaaGreatTk0
import Derived.Test.YtkbhbekfniadhaaGreatRows
import Derived.Test.YtkbhbekfniadhaaGreatLvLwK
import Derived.Test.YtkbhbekfniadhaaGreatKSh8
import Derived.Test.YtkbhbekfniadhaaGreatKFnCo
import Derived.Test.YtkbhbekfniadhaaGreatLSpFK
import Derived.WalkKit
import Derived.ProofKit
import Derived.OpenShut
import Derived.ShutString
import Derived.ChangeOld
import Derived.Below
set_option maxRecDepth 100000
set_option maxHeartbeats 64000000
namespace Go.Proofs.YtkbhbekfniadhaaGreat.fnLive
open Go.ChangeShapes Go.WideShapes Go.ChangeAt Go.RowKit
open Go.ChangeMaps (open_string shut_string)
set_option linter.unusedVariables false
theorem own : ownKnob Tryz.prog.godebug=none:=by kernel_rfl
theorem laidOut : laidOutB Tryz.prog=true:=by kernel_rfl
theorem walk (w:World)(a0:Option Addr)(len0 cap0:Nat)(z0:List Int)(r0:Qf .u8 w a0 len0 cap0 z0) :
  Calls Tryz.prog 3 #[.slice a0 len0 cap0] w fun e w'=>e=.returned (.bool true)∧Below w.heap.size w w':=by
 have HR:Hid (Qf .u8 w a0 len0 cap0 z0):=r0;clear r0;go_enter Tryz.func3,Tryz.ntmps3
 go_wp2_with fail
 refine(big_anyL a0 len0 cap0 _).mono ?_;rintro e w1 ⟨t,rfl,rfl⟩;cases t with
 | true=>
  go_wp2_with fail
  go_ret;exact⟨rfl,Below.refl _ _⟩
 | false=>
  go_wp2_with fail
  refine(aib a0 len0 cap0 z0 _ HR.out).mono ?_;rintro e w2 ⟨v,F,rfl,hF,hn0,hn9,b2⟩;obtain⟨n,HN⟩:∃n,Hid (F.blocks.length=n):=⟨_,rfl⟩;obtain⟨vals,HV⟩:∃x,Hid (F.values=x):=⟨_,rfl⟩;have F2:Hid (kJ w2 v F):=qt.low (Nat.zero_le _) hF;obtain⟨ba,bcap,rfl⟩:=F2.out.out HN.out HV.out;have B2:Hid (Below w1.heap.size w1 w2):=b2;have aD:n≤900:=by rw[←HN.out];exact hn9
  clear hF b2 hn0 hn9;obtain⟨m,HM⟩:∃q,Hid ((q7 F).length=q):=⟨_,rfl⟩;have ae:Hid ((x6 F).length=m):=(aiR F).trans HM.out;have hm:m≤100:=by rw[←HM.out];exact ail F
  go_wp2_with fail
  have BA:Hid (Below w1.heap.size w1 (w2.alloc (.cells #[.slice ba n bcap,vi vals] 26))):=Bel.after B2.out (Bel.alloc _ _);have FA:Hid (kJ (w2.alloc (.cells #[.slice ba n bcap,vi vals] 26)) (.agg #[.slice ba n bcap,vi vals]) F):=F2.out.later (Bel.alloc _ _);have c0:(w2.alloc (.cells #[.slice ba n bcap,vi vals] 26)).cell? (Z w2.heap.size 0)=some (.slice ba n bcap):=by simp[go_sem]
  have c1:(w2.alloc (.cells #[.slice ba n bcap,vi vals] 26)).cell? (Z w2.heap.size 1)=some (vi vals):=by simp[go_sem]
  generalize w2.alloc (.cells #[.slice ba n bcap,vi vals] 26)=wA at BA FA c0 c1 ⊢;obtain⟨FB,hFB⟩:∃x,w2.heap.size=x:=⟨_,rfl⟩;rw[hFB] at c0 c1 ⊢;clear hFB F2 B2;have O:Hid (∀w',Below wA.heap.size wA w'→w'.cell? (Z FB 0)=some (.slice ba n bcap)∧w'.cell? (Z FB 1)=some (vi vals)):=fun w' hb=>⟨Bel.keeps hb c0,Bel.keeps hb c1⟩
  have am:=O.out _ ((Below.refl wA.heap.size wA).drew);clear c0 c1;refine KH (Y1 6 (fun w'=>w'.cell? (Z FB 0)=some (.slice ba n bcap)∧w'.cell? (Z FB 1)=some (vi vals)) (by kernel_rfl) ?_);have hHeld:=am;refine tkM 0 ⟨some 15,.load 26 (.tmp 3),26,"laws.go:880",#[],none⟩ ?_ (fun w h=>?_) ?_;rotate_left
  ·(try dsimp only at h);go_simp;(try with_reducible rfl)
  try simp only[Act.put,sT,sZ,sS]
  refine tkM 2 ⟨some 17,.load 26 (.tmp 3),26,"laws.go:880",#[],none⟩ ?_ (fun w h=>?_) ?_;rotate_left
  ·(try dsimp only at h);go_simp;(try with_reducible rfl)
  try simp only[Act.put,sT,sZ,sS]
  clear hHeld am;have BD:Hid (Below wA.heap.size wA wA.drew):=(Below.refl _ _).drew;generalize wA.drew=wD at BD ⊢;refine kW (i:=1) (o:=⟨some 16,.call ⟨.value (.func 10),#[.tmp 15],#[26]⟩,28,"laws.go:880",#[⟨0,.data⟩],none⟩) rfl rfl (by kernel_rfl) (fun K9 r=>?_);refine jx (f:=10) (args := #[.agg #[.slice ba n bcap,vi vals]]) (by go_simp) (aiw _ F _ (FA.out.later BD.out)) ?_;rintro e w3 ⟨iv,rfl,o3,b3⟩;obtain⟨gi,icap,us3,hiv,_⟩:=o3;have ab:Hid (ah4 w3 iv (q7 F)):=KB.at ⟨gi,icap,us3,hiv,by assumption⟩ (ail F);rw[HM.out] at hiv;subst hiv;have B3:Hid (Below wA.heap.size wA w3):=Bel.after BD.out b3;refine⟨_,rfl,r _ _ ⟨fun _=>O.out _ B3.out,?_⟩⟩
  (try simp only[Act.put,sT,sZ,sS])
  clear r b3;refine kW (i:=3) (o:=⟨some 18,.call ⟨.value (.func 11),#[.tmp 17],#[26]⟩,28,"laws.go:880",#[⟨2,.data⟩,⟨1,.chain⟩],none⟩) rfl rfl (by kernel_rfl) (fun K9 r=>?_);refine jx (f:=11) (args := #[.agg #[.slice ba n bcap,vi vals]]) (by go_simp) (ait _ F _ (FA.out.later B3.out)) ?_;rintro e w4 ⟨ov,rfl,o4,b4⟩;obtain⟨go,ocap,us4,hov,_⟩:=o4;have ah:Hid (ah4 w4 ov (x6 F)):=KB.at ⟨go,ocap,us4,hov,by assumption⟩ (aix F);rw[ae.out] at hov;subst hov;have B4:Hid (Below wA.heap.size wA w4):=Bel.after B3.out b4;have ac:Hid (ah4 w4 (sq gi 0 m icap) (q7 F)):=ab.out.keep b4;have hHeld:=O.out _ B4.out;refine⟨_,rfl,r _ _ ⟨fun _=>hHeld,?_⟩⟩
  (try simp only[Act.put,sT,sZ,sS])
  clear r b4;refine tkM 4 ⟨some 4,.assign (.tmp 16),28,"laws.go:880",#[⟨1,.data⟩,⟨3,.chain⟩,⟨0,.phase⟩,⟨1,.phase⟩,⟨2,.textOnly .lateStores⟩,⟨3,.textOnly .lateStoresUnsure⟩],none⟩ ?_ (fun w h=>?_) ?_;rotate_left
  ·(try dsimp only at h);go_simp;(try with_reducible rfl)
  try simp only[Act.put,sT,sZ,sS]
  refine tkM 5 ⟨some 5,.assign (.tmp 18),28,"laws.go:880",#[⟨3,.data⟩,⟨4,.chain⟩,⟨0,.phase⟩,⟨1,.phase⟩,⟨2,.phase⟩,⟨3,.phase⟩,⟨4,.phase⟩],none⟩ ?_ (fun w h=>?_) ?_;rotate_left
  ·(try dsimp only at h);go_simp;(try with_reducible rfl)
  try simp only[Act.put,sT,sZ,sS]
  refine zq (by kernel_rfl) ?_ _;simp only[noThrow,Exit.then];obtain⟨d0,d1⟩:=hHeld
  go_at_K
  go_wp2_with fail
  refine(aiy _ F _ (FA.out.later B4.out)).mono ?_;rintro e w5 ⟨sv,rfl,o5,b5⟩;obtain⟨gs,scap,us5,hsv,_⟩:=o5;rw[HM.out] at hsv;subst hsv;have B5:Hid (Below wA.heap.size wA w5):=Bel.after B4.out b5;have ad:Hid (ah4 w5 (sq gi 0 m icap) (q7 F)):=ac.out.keep b5;have ai:Hid (ah4 w5 (sq go 0 m ocap) (x6 F)):=ah.out.keep b5;have F5:Hid (kJ w5 (.agg #[.slice ba n bcap,vi vals]) F):=FA.out.later B5.out;have B:Hid (∀w',Below w5.heap.size w5 w'→w'.cell? (Z FB 0)=some (.slice ba n bcap)∧w'.cell? (Z FB 1)=some (vi vals)):=fun w' hb=>O.out _ (Bel.after B5.out hb)
  have M:Hid (Below w1.heap.size w1 w5):=Bel.after BA.out B5.out;have aB:((m:Int) != (m:Int))=false:=by simp
  clear b5 d0 d1;go_wp2_with fail
  clear aB;have H:Hid (∀k,k<m→qg F∧m=n∧k<F.blocks.length):=fun k hk=>by
   have hP:qg F:=Classical.byContradiction (fun h=>by
    have h1:=HM.out;rw[ah2 h] at h1;simp at h1
    omega)
   have aC:m=n:=by
    have h1:=HM.out;rw[ah1 hP] at h1;simp at h1;have h2:=HN.out;omega
   exact⟨hP,aC,by have h2:=HN.out;omega⟩
  have ak:Hid (∀k,k<m→∃u,w5.cell? (Z gi k)=some u∧jV w5 u (qz F k)):=fun k hk=>by
   obtain⟨g,gcap,hv,_,hr⟩:=ad.out
   injection hv with e1 _ _
   injection e1 with e1
   injection e1 with e1 _ _
   subst e1;obtain⟨u,h1,h2⟩:=hr k (by rw[HM.out];exact hk);rw[(aiE (H.out k hk).1 (H.out k hk).2.2).1] at h2;exact⟨u,h1,h2⟩
  have au:Hid (∀k,k<m→∃u,w5.cell? (Z go k)=some u∧jV w5 u (yT F (qz F) k)):=fun k hk=>by
   obtain⟨g,gcap,hv,_,hr⟩:=ai.out
   injection hv with e1 _ _
   injection e1 with e1
   injection e1 with e1 _ _
   subst e1;obtain⟨u,h1,h2⟩:=hr k (by rw[ae.out];exact hk);rw[(aiE (H.out k hk).1 (H.out k hk).2.2).2] at h2;exact⟨u,h1,h2⟩
  clear ad ai ac ah ab;go_loopw [6] (fun i wr=>∃k:Nat,k≤m∧i=vi (k:Int)∧Below w5.heap.size w5 wr) (fun i _=>m-(intOf i).toNat)
  case atStart=>exact⟨0,Nat.zero_le _,rfl,Below.refl _ _⟩
  case round=>
   obtain⟨wq,hwq⟩:∃x,x=wr:=⟨_,rfl⟩;subst hwq;obtain⟨k,hk,rfl,hbq⟩:=hrel;have BQ:Hid (Below w5.heap.size w5 wq):=hbq;obtain⟨f0,f1⟩:=B.out wq hbq;clear hbq;by_cases aO:(k:Int)<(m:Int)
   ·have J:k<m:=by omega
    have HP:Hid (qg F):=(H.out k J).1;have az:k<F.blocks.length:=(H.out k J).2.2;have aw:Hid (aic F (k:Int)=succsN F k):=by
     show _=_;rw[aid HP.out.1 (by omega) (by omega)]
     rfl
    go_wp2_with fail
    refine(aiH _ F (k:Int) _ (F5.out.later BQ.out)).mono ?_;rw[aw.out];rintro e w6 ⟨nv,rfl,hq,b6⟩;have aj:Hid (jV w6 nv (succsN F k)):=hq.at
    have B6:Hid (Below w5.heap.size w5 w6):=Bel.after BQ.out b6;clear hq b6 f0 f1;obtain⟨na,ncap,rfl,hnm,hnc⟩:=aj.out;obtain⟨L,HL⟩:∃q,Hid ((succsN F k).length=q):=⟨_,rfl⟩;rw[HL.out] at hnm hnc ⊢;have ar:Hid (0<L→∃b off,na=some (Z b off)∧∀i,i<L→w6.cell? (Z b (off+i))=some (vi ((succsN F k).getD i 0))):=hnc;clear hnc aj;obtain⟨f0,f1⟩:=B.out w6 B6.out;go_wp2_with fail
    clear f0 f1;have aJ:vals≤80:=by rw[←HV.out];exact HP.out.1.2.2.2.1
    have aH:0≤vals:=by rw[←HV.out];exact HP.out.1.2.2.1
    go_loopw [8] (fun i wr=>∃j:Nat,(j:Int)≤vals∧i=vi (j:Int)∧wr=w6) (fun i _=>vals.toNat-(intOf i).toNat)
    case atStart=>exact⟨0,by simpa using aH,rfl,rfl⟩
    case round=>
     obtain⟨wx,hwx⟩:∃x,x=wr:=⟨_,rfl⟩;subst hwx;obtain⟨j,hj,rfl,hww⟩:=hrel;subst hww;obtain⟨f0,f1⟩:=B.out _ B6.out;by_cases aM:(j:Int)<vals
     ·go_wp2_with fail
      clear f0 f1;go_loopw [9,10] (fun bv i wr=>∃q:Nat,q≤L∧i=vi (q:Int)∧bv=.bool (aiq F (succsN F k) q (j:Int))∧wr=wx) (fun _ i _=>L-(intOf i).toNat)
      case atStart=>exact⟨0,Nat.zero_le _,rfl,rfl,rfl⟩
      case round=>
       obtain⟨wy,hwy⟩:∃x,x=wr:=⟨_,rfl⟩;subst hwy;obtain⟨q,hq,rfl,rfl,hww⟩:=hrel;subst hww;obtain⟨bb,HBB⟩:∃z,Hid (aiq F (succsN F k) q (j:Int)=z):=⟨_,rfl⟩;rw[HBB.out];by_cases aN:(q:Int)<(L:Int)
       ·have aE:q<L:=by omega
        obtain⟨s,HSq⟩:∃s,Hid ((succsN F k)[q]?=some s):=⟨_,List.getElem?_eq_getElem (by have:=HL.out;omega)⟩;have ag:=aiJ (F:=F) (v:=(j:Int)) HSq.out;have af:Hid (aiq F (succsN F k) (q+1) (j:Int)=(bb || decide ((j:Int)∈qz F s.toNat))):=ag.trans (by rw[HBB.out]);clear ag;have K:s∈succsN F k:=List.mem_of_getElem? HSq.out;obtain⟨aF,hs1⟩:=succs_lt HP.out.1 K;obtain⟨sn,HSN⟩:∃z:Nat,Hid ((z:Int)=s):=⟨s.toNat,by show _=_;omega⟩;have aG:sn<m:=by
         have h1:=HSN.out;have h2:=(H.out k J).2.1;have h3:=HN.out;omega
        obtain⟨sb,so,hna,hsc⟩:=ar.out (by omega);subst hna;have c0:=hsc q aE;have ao:(succsN F k).getD q 0=(sn:Int):=by
         rw[HSN.out];simp[List.getD,HSq.out]
        rw[ao] at c0;obtain⟨u,hu,hui⟩:=ak.out sn aG;have I:Hid (jV wy u (qz F s.toNat)):=by
         have e:s.toNat=sn:=by have:=HSN.out;omega
         show jV _ _ _;rw[e];exact hui.keep B6.out
        have c1:=Bel.keeps B6.out hu;clear hu hui hsc ao aF hs1 K;cases bb with
        | true=>
         go_wp2_with fail
         clear c0 c1;go_roundw
         case rel=>exact⟨q+1,by omega,by go_num,by rw[af.out];rfl,by trivial⟩
         case measure=>simp[intOf];omega
        | false=>
         go_wp2_with fail
         refine(ain u (qz F s.toNat) (j:Int) _ I.out).mono ?_;rintro e w8 ⟨rfl,h8⟩;subst h8;have aq:Hid (aiq F (succsN F k) (q+1) (j:Int)=decide ((j:Int)∈qz F s.toNat)):=af.out.trans (Bool.false_or _);obtain⟨bc,HBC⟩:∃z,Hid (decide ((j:Int)∈qz F s.toNat)=z):=⟨_,rfl⟩;rw[HBC.out];clear c0 c1;go_wp2_with fail
         go_roundw
         case rel=>exact⟨q+1,by omega,by go_num,by rw[aq.out,HBC.out],by trivial⟩
         case measure=>simp[intOf];omega
       ·have ay:L=q:=by omega
        subst ay;have HE:Hid (bb=decide ((j:Int)∈yT F (qz F) k)):=by
         show _=_;rw[←HBB.out,←HL.out];exact aiQ rfl (by omega) (by omega)
        obtain⟨u,hu,hui⟩:=au.out k J;have I:Hid (jV wy u (yT F (qz F) k)):=hui.keep B6.out;have c1:=Bel.keeps B6.out hu;clear hu hui;go_wp2_with fail
        refine(ain u (yT F (qz F) k) (j:Int) _ I.out).mono ?_;rintro e w8 ⟨rfl,h8⟩;subst h8;rw[←HE.out];clear c1;have aK:Hid ((bb != bb)=false):=by
         show _=_;cases bb <;> rfl
        have aL:Hid ((!(bb == bb))=false):=by
         show _=_;cases bb <;> rfl
        clear HE HBB;cases bb with
        | true=>
         go_wp2_with fail
         go_roundw
         case rel=>exact⟨j+1,by omega,by go_num,by trivial⟩
         case measure=>simp[intOf];omega
        | false=>
         go_wp2_with fail
         go_roundw
         case rel=>exact⟨j+1,by omega,by go_num,by trivial⟩
         case measure=>simp[intOf];omega
     ·go_wp2_with fail
      clear f0 f1;obtain⟨u,hu,hui⟩:=ak.out k J;have I:Hid (jV w5 u (qz F k)):=hui;have HU:Hid (w5.cell? (Z gi k)=some u):=hu;clear hu hui;have aa:Hid (∀w',Below w5.heap.size w5 w'→w'.cell? (Z FB 0)=some (.slice ba n bcap)∧w'.cell? (Z FB 1)=some (vi vals)∧w'.cell? (Z gi k)=some u):=fun w' hb=>⟨(B.out w' hb).1,(B.out w' hb).2,Bel.keeps hb HU.out⟩
      refine wp_region_held_drew (S:=(fun w'=>w'.cell? (Z FB 0)=some (.slice ba n bcap)∧w'.cell? (Z FB 1)=some (vi vals)∧w'.cell? (Z gi k)=some u)) (by kernel_rfl) (aa.out _ (Bel.after B6.out (Below.refl _ _).drew)) (fun hHeld=>?_);refine tkA 0 ⟨some 73,.load 26 (.tmp 3),26,"laws.go:895",#[],none⟩ ?_ (fun w h=>?_) ?_;rotate_left
      ·(try dsimp only at h);go_simp;(try with_reducible rfl)
      try simp only[Act.put,sT,sZ,sS]
      refine tkA 1 ⟨some 74,.move (.tmp 6),3,"laws.go:895",#[],none⟩ ?_ (fun w h=>?_) ?_;rotate_left
      ·(try dsimp only at h);go_simp;(try with_reducible rfl)
      try simp only[Act.put,sT,sZ,sS]
      refine tkA 3 ⟨some 76,.move (.tmp 4),28,"laws.go:895",#[],none⟩ ?_ (fun w h=>?_) ?_;rotate_left
      ·(try dsimp only at h);go_simp;(try with_reducible rfl)
      try simp only[Act.put,sT,sZ,sS]
      refine tkA 4 ⟨some 77,.move (.tmp 6),3,"laws.go:895",#[],none⟩ ?_ (fun w h=>?_) ?_;rotate_left
      ·(try dsimp only at h);go_simp;(try with_reducible rfl)
      try simp only[Act.put,sT,sZ,sS]
      refine tkA 5 ⟨some 78,.indexAddr 28 (.tmp 76) (.tmp 77),0,"laws.go:895",#[⟨3,.data⟩,⟨4,.data⟩],none⟩ ?_ (fun w h=>?_) ?_;rotate_left
      ·(try dsimp only at h);go_simp;(try with_reducible rfl)
      try simp only[Act.put,sT,sZ,sS]
      refine tkA 6 ⟨some 79,.load 30 (.tmp 78),30,"laws.go:895",#[⟨5,.data⟩],none⟩ ?_ (fun w h=>?_) ?_;rotate_left
      ·(try dsimp only at h);go_simp;(try with_reducible rfl)
      try simp only[Act.put,sT,sZ,sS]
      refine jg (i:=2) (o:=⟨some 75,.call ⟨.value (.func 16),#[.tmp 73,.tmp 74,.const (vi 0)],#[26,3,3]⟩,30,"laws.go:895",#[⟨0,.data⟩,⟨1,.data⟩],none⟩) rfl rfl (by kernel_rfl) (fun K9 r=>?_);have G:Hid (Below w5.heap.size w5 wx.drew):=Bel.after B6.out (Below.refl _ _).drew;refine jx (f:=16) (args := #[.agg #[.slice ba n bcap,vi vals],vi (k:Int),vi 0]) (by go_simp) (adW _ F (k:Int) 0 _ (F5.out.later G.out)) ?_;rw[aiz HP.out az];rintro e w7 ⟨lv,rfl,hq,b7⟩;have ap:Hid (jV w7 lv (qz F k)):=hq.at
      have B7:Hid (Below w5.heap.size w5 w7):=Bel.after G.out b7;refine⟨_,rfl,?_⟩;refine r _ _ ⟨aa.out _ B7.out,?_⟩;try simp only[Act.put,sT,sZ,sS]
      clear r hq b7 hHeld;refine jg (i:=7) (o:=⟨some 80,.call ⟨.value (.func 15),#[.tmp 75,.tmp 79],#[30,30]⟩,4,"laws.go:895",#[⟨2,.data⟩,⟨6,.data⟩,⟨2,.chain⟩],none⟩) rfl rfl (by kernel_rfl) (fun K9 r=>?_);refine jx (f:=15) (args := #[lv,u]) (by go_simp) (ais lv u (qz F k) (qz F k) _ ap.out (I.out.keep B7.out)) ?_;rintro e w8 ⟨rfl,b8⟩;have an:decide (qz F k=qz F k)=true:=by simp
      rw[an];clear an;have B8:Hid (Below w5.heap.size w5 w8):=Bel.after B7.out b8;have hHeld:=aa.out _ B8.out;refine⟨_,rfl,?_⟩;refine r _ _ ⟨hHeld,?_⟩;try simp only[Act.put,sT,sZ,sS]
      clear r b8;refine tkA 8 ⟨some 81,.unOp .not 4 (.tmp 80),4,"laws.go:895",#[⟨7,.data⟩],none⟩ ?_ (fun w h=>?_) ?_;rotate_left
      ·(try dsimp only at h);go_simp;(try with_reducible rfl)
      try simp only[Act.put,sT,sZ,sS]
      refine wpAnyH_done (by kernel_rfl) ?_ _;clear hHeld;simp only[Exit.then]
      go_at_K
      go_wp2_with fail
      go_roundw
      case rel=>exact⟨k+1,by omega,by go_num,B8.out⟩
      case measure=>simp[intOf];omega
   ·have ax:m=k:=by omega
    subst ax;go_wp2_with fail
    by_cases hP:qg F
    ·have HP:Hid (qg F):=hP;clear hP;refine wp_region_held_drew (S:=(fun w'=>w'.cell? (Z FB 0)=some (.slice ba n bcap)∧w'.cell? (Z FB 1)=some (vi vals))) (by kernel_rfl) (B.out _ (Bel.after BQ.out (Below.refl _ _).drew)) (fun hHeld=>?_);have G:Hid (Below w5.heap.size w5 wq.drew):=Bel.after BQ.out (Below.refl _ _).drew;refine tkA 0 ⟨some 82,.load 26 (.tmp 3),26,"laws.go:899",#[],none⟩ ?_ (fun w h=>?_) ?_;rotate_left
     ·(try dsimp only at h);go_simp;(try with_reducible rfl)
     try simp only[Act.put,sT,sZ,sS]
     refine tkA 2 ⟨some 84,.load 26 (.tmp 3),26,"laws.go:899",#[],none⟩ ?_ (fun w h=>?_) ?_;rotate_left
     ·(try dsimp only at h);go_simp;(try with_reducible rfl)
     try simp only[Act.put,sT,sZ,sS]
     refine jg (i:=1) (o:=⟨some 83,.call ⟨.value (.func 17),#[.tmp 82],#[26]⟩,4,"laws.go:899",#[⟨0,.data⟩],none⟩) rfl rfl (by kernel_rfl) (fun K9 r=>?_);refine jx (f:=17) (args := #[.agg #[.slice ba n bcap,vi vals]]) (by go_simp) (Yx _ F _ (F5.out.later G.out)) ?_;rintro e w7 ⟨U,rfl,hiff,hb⟩;obtain rfl:U=true:=hiff.2 HP.out;have B7:Hid (Below w5.heap.size w5 w7):=Bel.after G.out hb;replace hHeld:=B.out _ B7.out;refine⟨_,rfl,?_⟩;refine r _ _ ⟨hHeld,?_⟩;try simp only[Act.put,sT,sZ,sS]
     clear r hiff hb;refine jg (i:=3) (o:=⟨some 85,.call ⟨.value (.func 18),#[.tmp 84],#[26]⟩,4,"laws.go:899",#[⟨2,.data⟩,⟨1,.chain⟩],none⟩) rfl rfl (by kernel_rfl) (fun K9 r=>?_);refine jx (f:=18) (args := #[.agg #[.slice ba n bcap,vi vals]]) (by go_simp) (Yw _ F _ (F5.out.later B7.out)) ?_;rintro e w8 ⟨V,rfl,hiff,hb⟩;obtain rfl:V=true:=hiff.2 HP.out;have B8:Hid (Below w5.heap.size w5 w8):=Bel.after B7.out hb;replace hHeld:=B.out _ B8.out;refine⟨_,rfl,?_⟩;refine r _ _ ⟨hHeld,?_⟩;try simp only[Act.put,sT,sZ,sS]
     clear r hiff hb;refine tkA 4 ⟨some 86,.binOp .eql 4 (.tmp 83) (.tmp 85) 4,4,"laws.go:899",#[⟨1,.data⟩,⟨3,.data⟩],none⟩ ?_ (fun w h=>?_) ?_;rotate_left
     ·(try dsimp only at h);go_simp;(try with_reducible rfl)
     try simp only[Act.put,sT,sZ,sS]
     refine tkA 5 ⟨some 87,.move (.tmp 86),4,"laws.go:899",#[⟨4,.data⟩,⟨3,.chain⟩],none⟩ ?_ (fun w h=>?_) ?_;rotate_left
     ·(try dsimp only at h);go_simp;(try with_reducible rfl)
     try simp only[Act.put,sT,sZ,sS]
     refine tkA 6 ⟨some 88,.load 26 (.tmp 3),26,"laws.go:899",#[⟨5,.guard⟩],some (5,true)⟩ ?_ (fun w h=>?_) ?_;rotate_left
     ·(try dsimp only at h);go_simp;(try with_reducible rfl)
     try simp only[Act.put,sT,sZ,sS]
     refine aie (i:=7) (o:=⟨some 89,.call ⟨.value (.func 18),#[.tmp 88],#[26]⟩,4,"laws.go:899",#[⟨6,.data⟩,⟨5,.chain⟩,⟨5,.guard⟩],some (5,true)⟩) rfl (by rfl) (by kernel_rfl) (fun K9 r=>?_);refine jx (f:=18) (args := #[.agg #[.slice ba n bcap,vi vals]]) (by go_simp) (Yw _ F _ (F5.out.later B8.out)) ?_;rintro e w9 ⟨X,rfl,hiff,hb⟩;obtain rfl:X=true:=hiff.2 HP.out;have B9:Hid (Below w5.heap.size w5 w9):=Bel.after B8.out hb;replace hHeld:=B.out _ B9.out;refine⟨_,rfl,?_⟩;refine r _ _ ⟨hHeld,?_⟩;try simp only[Act.put,sT,sZ,sS]
     clear r hiff hb;refine tkA 8 ⟨some 90,.move (.tmp 89),4,"laws.go:899",#[⟨7,.data⟩,⟨7,.chain⟩,⟨5,.guard⟩],some (5,true)⟩ ?_ (fun w h=>?_) ?_;rotate_left
     ·(try dsimp only at h);go_simp;(try with_reducible rfl)
     try simp only[Act.put,sT,sZ,sS]
     refine wpAnyH_take (i:=9) (oi:=⟨some 91,.move (.tmp 4),28,"laws.go:899",#[⟨8,.guard⟩],some (8,false)⟩) (v:=undef) rfl (by kernel_rfl) (by kernel_rfl) (by kernel_rfl) (fun _ _ _ h=>h) (Or.inr ⟨by rfl,rfl⟩) (by assumption) ?_;try simp only[Act.put,sT,sZ,sS]
     refine wpAnyH_take (i:=10) (oi:=⟨some 92,.call ⟨.builtin .len,#[.tmp 91],#[28]⟩,3,"laws.go:899",#[⟨9,.data⟩,⟨8,.guard⟩],some (8,false)⟩) (v:=undef) rfl (by kernel_rfl) (by kernel_rfl) (by kernel_rfl) (fun _ _ _ h=>h) (Or.inr ⟨by rfl,rfl⟩) (by assumption) ?_;try simp only[Act.put,sT,sZ,sS]
     refine wpAnyH_take (i:=11) (oi:=⟨some 93,.binOp .eql 3 (.tmp 92) (.const (vi 0)) 3,4,"laws.go:899",#[⟨10,.data⟩,⟨8,.guard⟩],some (8,false)⟩) (v:=undef) rfl (by kernel_rfl) (by kernel_rfl) (by kernel_rfl) (fun _ _ _ h=>h) (Or.inr ⟨by rfl,rfl⟩) (by assumption) ?_;try simp only[Act.put,sT,sZ,sS]
     refine tkA 12 ⟨some 94,.pick (.tmp 90) (.const (.bool true)) (.tmp 93),4,"laws.go:899",#[⟨8,.data⟩,⟨11,.data⟩,⟨5,.guard⟩],some (5,true)⟩ ?_ (fun w h=>?_) ?_;rotate_left
     ·(try dsimp only at h);go_simp;(try with_reducible rfl)
     try simp only[Act.put,sT,sZ,sS]
     refine tkA 13 ⟨some 95,.pick (.tmp 87) (.tmp 94) (.const (.bool false)),4,"laws.go:899",#[⟨5,.data⟩,⟨12,.data⟩],none⟩ ?_ (fun w h=>?_) ?_;rotate_left
     ·(try dsimp only at h);go_simp;(try with_reducible rfl)
     try simp only[Act.put,sT,sZ,sS]
     refine tkA 14 ⟨some 2,.assign (.tmp 95),4,"laws.go:899",#[⟨13,.data⟩,⟨8,.chain⟩,⟨0,.phase⟩,⟨1,.phase⟩,⟨2,.phase⟩,⟨3,.phase⟩,⟨4,.phase⟩,⟨5,.phase⟩,⟨6,.phase⟩,⟨7,.phase⟩,⟨8,.phase⟩,⟨9,.phase⟩,⟨10,.phase⟩,⟨11,.phase⟩,⟨12,.phase⟩,⟨13,.phase⟩],none⟩ ?_ (fun w h=>?_) ?_;rotate_left
     ·(try dsimp only at h);go_simp;(try with_reducible rfl)
     try simp only[Act.put,sT,sZ,sS]
     refine wpAnyH_done (by kernel_rfl) ?_ _;clear hHeld;simp only[Exit.then]
     go_at_K
     go_wp2_with fail
     go_ret;exact⟨rfl,M.out.trans (B9.out.mono M.out.size)⟩
    ·have HP:Hid (¬qg F):=hP;have aA:m=0:=by
      have h1:=HM.out;rw[ah2 hP] at h1;simpa using h1.symm
     subst aA;clear hP;refine wp_region_held_drew (S:=(fun w'=>w'.cell? (Z FB 0)=some (.slice ba n bcap)∧w'.cell? (Z FB 1)=some (vi vals))) (by kernel_rfl) (B.out _ (Bel.after BQ.out (Below.refl _ _).drew)) (fun hHeld=>?_);have G:Hid (Below w5.heap.size w5 wq.drew):=Bel.after BQ.out (Below.refl _ _).drew;refine tkA 0 ⟨some 82,.load 26 (.tmp 3),26,"laws.go:899",#[],none⟩ ?_ (fun w h=>?_) ?_;rotate_left
     ·(try dsimp only at h);go_simp;(try with_reducible rfl)
     try simp only[Act.put,sT,sZ,sS]
     refine tkA 2 ⟨some 84,.load 26 (.tmp 3),26,"laws.go:899",#[],none⟩ ?_ (fun w h=>?_) ?_;rotate_left
     ·(try dsimp only at h);go_simp;(try with_reducible rfl)
     try simp only[Act.put,sT,sZ,sS]
     refine jg (i:=1) (o:=⟨some 83,.call ⟨.value (.func 17),#[.tmp 82],#[26]⟩,4,"laws.go:899",#[⟨0,.data⟩],none⟩) rfl rfl (by kernel_rfl) (fun K9 r=>?_);refine jx (f:=17) (args := #[.agg #[.slice ba n bcap,vi vals]]) (by go_simp) (Yx _ F _ (F5.out.later G.out)) ?_;rintro e w7 ⟨U,rfl,hiff,hb⟩;obtain rfl:U=false:=by
      cases U with
      | false=>rfl
      | true=>exact absurd (hiff.1 rfl) HP.out
     have B7:Hid (Below w5.heap.size w5 w7):=Bel.after G.out hb;replace hHeld:=B.out _ B7.out;refine⟨_,rfl,?_⟩;refine r _ _ ⟨hHeld,?_⟩;try simp only[Act.put,sT,sZ,sS]
     clear r hiff hb;refine jg (i:=3) (o:=⟨some 85,.call ⟨.value (.func 18),#[.tmp 84],#[26]⟩,4,"laws.go:899",#[⟨2,.data⟩,⟨1,.chain⟩],none⟩) rfl rfl (by kernel_rfl) (fun K9 r=>?_);refine jx (f:=18) (args := #[.agg #[.slice ba n bcap,vi vals]]) (by go_simp) (Yw _ F _ (F5.out.later B7.out)) ?_;rintro e w8 ⟨V,rfl,hiff,hb⟩;obtain rfl:V=false:=by
      cases V with
      | false=>rfl
      | true=>exact absurd (hiff.1 rfl) HP.out
     have B8:Hid (Below w5.heap.size w5 w8):=Bel.after B7.out hb;replace hHeld:=B.out _ B8.out;refine⟨_,rfl,?_⟩;refine r _ _ ⟨hHeld,?_⟩;try simp only[Act.put,sT,sZ,sS]
     clear r hiff hb;refine tkA 4 ⟨some 86,.binOp .eql 4 (.tmp 83) (.tmp 85) 4,4,"laws.go:899",#[⟨1,.data⟩,⟨3,.data⟩],none⟩ ?_ (fun w h=>?_) ?_;rotate_left
     ·(try dsimp only at h);go_simp;(try with_reducible rfl)
     try simp only[Act.put,sT,sZ,sS]
     refine tkA 5 ⟨some 87,.move (.tmp 86),4,"laws.go:899",#[⟨4,.data⟩,⟨3,.chain⟩],none⟩ ?_ (fun w h=>?_) ?_;rotate_left
     ·(try dsimp only at h);go_simp;(try with_reducible rfl)
     try simp only[Act.put,sT,sZ,sS]
     refine tkA 6 ⟨some 88,.load 26 (.tmp 3),26,"laws.go:899",#[⟨5,.guard⟩],some (5,true)⟩ ?_ (fun w h=>?_) ?_;rotate_left
     ·(try dsimp only at h);go_simp;(try with_reducible rfl)
     try simp only[Act.put,sT,sZ,sS]
     refine aie (i:=7) (o:=⟨some 89,.call ⟨.value (.func 18),#[.tmp 88],#[26]⟩,4,"laws.go:899",#[⟨6,.data⟩,⟨5,.chain⟩,⟨5,.guard⟩],some (5,true)⟩) rfl (by rfl) (by kernel_rfl) (fun K9 r=>?_);refine jx (f:=18) (args := #[.agg #[.slice ba n bcap,vi vals]]) (by go_simp) (Yw _ F _ (F5.out.later B8.out)) ?_;rintro e w9 ⟨X,rfl,hiff,hb⟩;obtain rfl:X=false:=by
      cases X with
      | false=>rfl
      | true=>exact absurd (hiff.1 rfl) HP.out
     have B9:Hid (Below w5.heap.size w5 w9):=Bel.after B8.out hb;replace hHeld:=B.out _ B9.out;refine⟨_,rfl,?_⟩;refine r _ _ ⟨hHeld,?_⟩;try simp only[Act.put,sT,sZ,sS]
     clear r hiff hb;refine tkA 8 ⟨some 90,.move (.tmp 89),4,"laws.go:899",#[⟨7,.data⟩,⟨7,.chain⟩,⟨5,.guard⟩],some (5,true)⟩ ?_ (fun w h=>?_) ?_;rotate_left
     ·(try dsimp only at h);go_simp;(try with_reducible rfl)
     try simp only[Act.put,sT,sZ,sS]
     refine tkA 9 ⟨some 91,.move (.tmp 4),28,"laws.go:899",#[⟨8,.guard⟩],some (8,false)⟩ ?_ (fun w h=>?_) ?_;rotate_left
     ·(try dsimp only at h);go_simp;(try with_reducible rfl)
     try simp only[Act.put,sT,sZ,sS]
     refine tkA 10 ⟨some 92,.call ⟨.builtin .len,#[.tmp 91],#[28]⟩,3,"laws.go:899",#[⟨9,.data⟩,⟨8,.guard⟩],some (8,false)⟩ ?_ (fun w h=>?_) ?_;rotate_left
     ·(try dsimp only at h);go_simp;(try with_reducible rfl)
     try simp only[Act.put,sT,sZ,sS]
     refine tkA 11 ⟨some 93,.binOp .eql 3 (.tmp 92) (.const (vi 0)) 3,4,"laws.go:899",#[⟨10,.data⟩,⟨8,.guard⟩],some (8,false)⟩ ?_ (fun w h=>?_) ?_;rotate_left
     ·(try dsimp only at h);go_simp;(try with_reducible rfl)
     try simp only[Act.put,sT,sZ,sS]
     refine tkA 12 ⟨some 94,.pick (.tmp 90) (.const (.bool true)) (.tmp 93),4,"laws.go:899",#[⟨8,.data⟩,⟨11,.data⟩,⟨5,.guard⟩],some (5,true)⟩ ?_ (fun w h=>?_) ?_;rotate_left
     ·(try dsimp only at h);go_simp;(try with_reducible rfl)
     try simp only[Act.put,sT,sZ,sS]
     refine tkA 13 ⟨some 95,.pick (.tmp 87) (.tmp 94) (.const (.bool false)),4,"laws.go:899",#[⟨5,.data⟩,⟨12,.data⟩],none⟩ ?_ (fun w h=>?_) ?_;rotate_left
     ·(try dsimp only at h);go_simp;(try with_reducible rfl)
     try simp only[Act.put,sT,sZ,sS]
     refine tkA 14 ⟨some 2,.assign (.tmp 95),4,"laws.go:899",#[⟨13,.data⟩,⟨8,.chain⟩,⟨0,.phase⟩,⟨1,.phase⟩,⟨2,.phase⟩,⟨3,.phase⟩,⟨4,.phase⟩,⟨5,.phase⟩,⟨6,.phase⟩,⟨7,.phase⟩,⟨8,.phase⟩,⟨9,.phase⟩,⟨10,.phase⟩,⟨11,.phase⟩,⟨12,.phase⟩,⟨13,.phase⟩],none⟩ ?_ (fun w h=>?_) ?_;rotate_left
     ·(try dsimp only at h);go_simp;(try with_reducible rfl)
     try simp only[Act.put,sT,sZ,sS]
     refine wpAnyH_done (by kernel_rfl) ?_ _;clear hHeld;simp only[Exit.then]
     go_at_K
     go_wp2_with fail
     go_ret;exact⟨rfl,M.out.trans (B9.out.mono M.out.size)⟩
theorem lifted (os:Os)(started:os.Started)(H:Type)(enc:TypeId × Value→H) :
  ReturnsInHanded {} Tryz.checked os 3 .any (Rows.fnLiveSpec.pre6 enc Tryz.prog Tryz.f3 Rows.fnLiveRow.domain false) (Rows.fnLiveSpec.post enc Tryz.prog Tryz.f3 false true false false):=by
 refine returnsInHanded_of_change (C:=Tryz.checked) own started (by kernel_rfl) Tryz.func3
  (ChangeSpec.witness6 (enc:=enc) (C:=Tryz.checked) false ⟨#[],#[.slice none 0 0],[]⟩ 8 (by kernel_rfl) (by kernel_rfl) (by kernel_rfl) (by kernel_rfl)) ?_
 intro W base args ds gs before r hW J _;have G:∀(j:Nat) t v,Tryz.f3.params[j]?=some t→args[j]?=some v→Value.okWide Tryz.prog W .any base t v:=r;have I:=hW;obtain⟨p,q,hA0,hV,rfl,hfz,hnd⟩:=hW;have hA:DataW.TrodAll enc Tryz.prog W 0 (fun _=>true) true Tryz.f3.params.toList args.toList ds p:=hA0;rw[Tryz.params3] at hA G;obtain⟨v0,vs0,d0,ds0,p0,q0,hargs,rfl,rfl,h0,r0x⟩:=trodAll_cons hA;obtain⟨rfl,rfl,rfl⟩:=trodAll_nil r0x;obtain rfl:args = #[v0]:=by cases args;simp_all
 obtain⟨rfl,rfl⟩:=trodVars_none hV;have k0:=h0;have K:∀x∈p0,x.block<W.heap.size:=by obtain⟨m,hm⟩:=k0;exact DataW.trod_lt m _ _ _ hm
 obtain⟨a0,len0,cap0,rfl⟩:=okWide_slice Tryz.underlying22 (G 0 22 v0 rfl rfl);obtain⟨z0,r0⟩:∃zs,Qf .u8 W a0 len0 cap0 zs:=by
  obtain⟨fuel,hf⟩:=h0;rcases open_ints Tryz.underlying22 Tryz.underlying5 (by kernel_rfl) hf with ⟨B,_⟩ | ⟨x,l,c,zs,B,_,hl,hm,hz,_,hcell,hwz⟩
  ·simp[Value.cells] at B;obtain⟨rfl,rfl,rfl⟩:=B;exact⟨[],.inl ⟨rfl,rfl,rfl,rfl⟩⟩
  ·simp[Value.cells] at B;obtain⟨rfl,rfl,rfl⟩:=B;exact⟨zs,.inr ⟨_,rfl,hl,hm,by simpa using hz,hcell,hwz⟩⟩
 clear hA0 r;refine(walk W a0 len0 cap0 z0 r0).mono fun e W' ⟨he,bel⟩=>?_
 subst he;exact⟨_,rfl,_,_,_,[],_,[],I,trodAll_mk1 (shut_bool Tryz.underlying4 _),(trodAll_cons_mk (Below.trod laidOut (by kernel_rfl) (of_decide_eq_true (by kernel_rfl)) k0 bel K) trodAll_mk0),rfl,bel.frame _,fun h=>by cases h⟩
theorem over : Rows.fnLiveRow.holds Tryz.pinned (OpenSpec.ofChange Rows.fnLiveSpec) :=
 OpenClaim.holds_of_wide 3 Tryz.f3 rfl rfl rfl rfl rfl rfl rfl ⟨rfl,rfl,rfl,rfl,rfl⟩ rfl rfl rfl rfl rfl (by kernel_rfl) Tryz.func3 (by kernel_rfl)
  (of_decide_eq_true (by kernel_rfl)) (by unfold Func.isWrapper;first | (rw[if_pos (by decide +kernel)];kernel_rfl) | (rw[if_neg (by decide +kernel)];exact⟨rfl,rfl⟩))
  (fun os started H enc _=>lifted os started H enc)
theorem proved : Rows.FnLiveSaid:=over
#print axioms proved
end Go.Proofs.YtkbhbekfniadhaaGreat.fnLive
