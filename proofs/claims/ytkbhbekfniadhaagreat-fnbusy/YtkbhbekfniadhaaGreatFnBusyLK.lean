/- Proved: FnBusy holds for every list of bytes: Busy of the drawn program is what the model says, minus one where the program is not plain, and else the greatest number of values that LiveAt tells at a place of it. -/
import Derived.Test.YtkbhbekfniadhaaGreatRows
import Derived.Test.YtkbhbekfniadhaaGreatKLowE
import Derived.Test.YtkbhbekfniadhaaGreatKLBz
import Derived.Test.YtkbhbekfniadhaaGreatKLAt
import Derived.WalkKit
import Derived.ProofKit
import Derived.OpenShut
import Derived.ShutString
import Derived.ChangeOld
import Derived.Below
set_option maxRecDepth 100000
set_option maxHeartbeats 64000000
namespace Go.Proofs.YtkbhbekfniadhaaGreat.fnBusy
open Go.ChangeShapes Go.WideShapes Go.ChangeAt Go.RowKit
open Go.ChangeMaps (open_string shut_string)
set_option linter.unusedVariables false
theorem own : ownKnob Tryz.prog.godebug=none:=by kernel_rfl
theorem laidOut : laidOutB Tryz.prog=true:=by kernel_rfl
theorem walk (w:World)(a0:Option Addr)(len0 cap0:Nat)(z0:List Int)(r0:Qf .u8 w a0 len0 cap0 z0) :
  Calls Tryz.prog 5 #[.slice a0 len0 cap0] w fun e w'=>e=.returned (.bool true)∧Below w.heap.size w w':=by
 have HR:Hid (Qf .u8 w a0 len0 cap0 z0):=r0;clear r0;go_enter Tryz.func5,Tryz.ntmps5
 go_wp2_with fail
 refine(big_anyL a0 len0 cap0 _).mono ?_;rintro e w1 ⟨t,rfl,rfl⟩;cases t with
 | true=>
  go_wp2_with fail
  go_ret;exact⟨rfl,Below.refl _ _⟩
 | false=>
  go_wp2_with fail
  refine(adj a0 len0 cap0 z0 _ HR.out).mono ?_;rintro e w2 ⟨v,F,rfl,hF,hn0,hn9,b2⟩;obtain⟨n,HN⟩:∃n,Hid (F.blocks.length=n):=⟨_,rfl⟩;obtain⟨vals,HV⟩:∃x,Hid (F.values=x):=⟨_,rfl⟩;have F2:Hid (kJ w2 v F):=qt.low (Nat.zero_le _) hF;obtain⟨ba,bcap,rfl⟩:=F2.out.out HN.out HV.out;have B2:Hid (Below w1.heap.size w1 w2):=b2;have hn16:n≤900:=by rw[←HN.out];exact hn9
  clear hF b2 hn0 hn9;obtain⟨r,HRR⟩:∃r,Hid (Km F=r):=⟨_,rfl⟩;have hd:(r != r)=false:=by simp
  go_wp2_with fail
  refine(ahg _ F _ (F2.out.later (Bel.alloc _ _))).mono ?_;rw[HRR.out];rintro e w3 ⟨rfl,b3⟩;have B3:Hid (Below w1.heap.size w1 w3):=Bel.after (Bel.after B2.out (Bel.alloc _ _)) b3;have F3:Hid (kJ w3 (.agg #[.slice ba n bcap,vi vals]) F):=(F2.out.later (Bel.alloc _ _)).later b3;have c0:=zB b3 0;have c1:=zB b3 1;simp at c0 c1;clear b3 F2 B2;obtain⟨FB,hFB⟩:∃x,w2.heap.size=x:=⟨_,rfl⟩;rw[hFB] at c0 c1 ⊢;clear hFB;go_wp2_with fail
  refine(ahe _ F _ F3.out).mono ?_;rw[HRR.out];rintro e w4 ⟨rfl,b4⟩;have B4:Hid (Below w1.heap.size w1 w4):=Bel.after B3.out b4;have F4:Hid (kJ w4 (.agg #[.slice ba n bcap,vi vals]) F):=F3.out.later b4;replace c0:=Bel.keeps b4 c0;replace c1:=Bel.keeps b4 c1;clear b4 F3 B3;go_wp2_with fail
  refine(Yw _ F _ F4.out).mono ?_;rintro e w5 ⟨s,rfl,hs,b5⟩;have HS:Hid (s=true↔qg F):=hs;have B5:Hid (Below w1.heap.size w1 w5):=Bel.after B4.out b5;have F5:Hid (kJ w5 (.agg #[.slice ba n bcap,vi vals]) F):=F4.out.later b5;have C0:Hid (w5.cell? (Z FB 0)=some (.slice ba n bcap)):=Bel.keeps b5 c0;have C1:Hid (w5.cell? (Z FB 1)=some (vi vals)):=Bel.keeps b5 c1;clear hs b5 F4 B4 c0 c1 hd;cases s
  ·have HE:Hid (Km F = -1):=z7 (.inl ⟨fun h=>(by have:=HS.out.2 h;cases this),rfl⟩);obtain rfl:r = -1:=HRR.out.symm.trans HE.out;go_wp2_with fail
   go_ret;exact⟨rfl,B5.out⟩
  ·have HP:Hid (qg F):=HS.out.1 rfl;have d0:=C0.out;have d1:=C1.out;go_wp2_with fail
   clear d0 d1;go_loopw [5,6] (fun mv i wr=>∃(M k:Nat),k≤n∧i=vi (k:Int)∧mv=vi (M:Int)∧Top F (qy F k) M∧Below w5.heap.size w5 wr) (fun _ i _=>n-(intOf i).toNat)
   case atStart=>exact⟨0,0,Nat.zero_le _,rfl,rfl,abX F,Below.refl _ _⟩
   case round=>
    obtain⟨wq,hwq⟩:∃x,x=wr:=⟨_,rfl⟩;subst hwq;obtain⟨M,k,hk,rfl,rfl,htop,hbq⟩:=hrel;have HT:Hid (Top F (qy F k) M):=htop;have BQ:Hid (Below w5.heap.size w5 wq):=hbq;have f0:=Bel.keeps hbq C0.out;have f1:=Bel.keeps hbq C1.out;clear htop hbq;by_cases hlt:(k:Int)<(n:Int)
    ·have hkn:k<n:=by omega
     have hcl:k<F.blocks.length:=by rw[HN.out];exact hkn
     obtain⟨x,HX⟩:∃x,Hid (F.blocks[k]?=some x):=⟨F.blocks[k],List.getElem?_eq_getElem hcl⟩;obtain⟨bb,off,rfl,pv,lv,t0,t1,t2,t3,t4,t5,hpv,hlv⟩:=kJ.yg F5.out HN.out hkn HX.out;obtain⟨la,lcap,rfl,hlm,-⟩:=hlv;obtain⟨ln,HLN⟩:∃z,Hid (x.list.length=z):=⟨_,rfl⟩;rw[HLN.out] at t1 hlm;have hl24:ln≤24:=by rw[←HLN.out];exact(HP.out.1.2.2.2.2 k x HX.out).2.1
     have HT1:Hid (w5.cell? (Z bb (off+k*6+1))=some (.slice la ln lcap)):=t1;clear t0 t1 t2 t3 t4 t5 hpv hcl;go_wp2_with fail
     clear f0 f1;go_loopw [5,7] (fun mv i wr=>∃(M j:Nat),j≤ln+1∧i=vi (j:Int)∧mv=vi (M:Int)∧Top F (Kl F k j) M∧Below w5.heap.size w5 wr) (fun _ i _=>ln+1-(intOf i).toNat)
     case atStart=>exact⟨M,0,Nat.zero_le _,rfl,rfl,HT.out.congr (fun b j=>⟨fun h=>.inl h,fun h=>h.elim id (fun h=>absurd h.2 (by omega))⟩),BQ.out⟩
     case round=>
      obtain⟨wx,hwx⟩:∃x,x=wr:=⟨_,rfl⟩;subst hwx;obtain⟨M',j,hj,rfl,rfl,htop,hbx⟩:=hrel;have HT2:Hid (Top F (Kl F k j) M'):=htop;have BX:Hid (Below w5.heap.size w5 wx):=hbx;have g0:=Bel.keeps hbx C0.out;have g1:=Bel.keeps hbx C1.out;have g2:=Bel.keeps hbx HT1.out;clear htop hbx;by_cases hlj:(j:Int)≤(ln:Int)
      ·have hjl:j≤x.list.length:=by have:=HLN.out;omega
       have HPI:Hid (ZF F (k:Int) (j:Int) x):=⟨HP.out,by omega,by simpa using HX.out,by omega,by omega⟩;obtain⟨nk,HNK⟩:∃z,Hid (lenAt F k j=z):=⟨_,rfl⟩;have hnk80:nk≤80:=by rw[←HNK.out];exact aeS F k j
       have HLV:Hid ((xZ F (k:Int) (j:Int)).length=nk):=by
        show _=_;rw[Yj HPI.out];simpa using (abW HX.out j).symm.trans HNK.out
       go_wp2_with fail
       refine(adW _ F (k:Int) (j:Int) _ (F5.out.later BX.out)).mono ?_;rintro e w6 ⟨lv6,rfl,ho6,b6⟩;obtain⟨na,ncap,rfl,_,_⟩:=ho6.at
       rw[HLV.out];have B6:Hid (Below w5.heap.size w5 w6):=Bel.after BX.out b6;clear ho6 b6;have HT3:Hid (Top F (Kl F k (j+1)) (max M' nk)):=by
        rw[←HNK.out]
        exact HT2.out.add (fun b i=>⟨fun h=>h.elim (fun h=>.inl (.inl h)) (fun h=>by
         by_cases e:i=j
         ·exact .inr ⟨h.1,e⟩
         ·exact .inl (.inr ⟨h.1,by omega⟩)),fun h=>h.elim (fun h=>h.elim .inl (fun h=>.inr ⟨h.1,by omega⟩)) (fun h=>.inr ⟨h.1,by omega⟩)⟩)
       clear g0 g1 g2;by_cases hmx:(M':Int)<(nk:Int)
       ·have HM:Hid (max M' nk=nk):=by show _=_;omega
        go_wp2_with fail
        go_roundw
        case rel=>exact⟨nk,j+1,by omega,by go_num,rfl,by have:=HT3.out;rw[HM.out] at this;exact this,B6.out⟩
        case measure=>simp[intOf];omega
       ·have HM:Hid (max M' nk=M'):=by show _=_;omega
        go_wp2_with fail
        go_roundw
        case rel=>exact⟨M',j+1,by omega,by go_num,rfl,by have:=HT3.out;rw[HM.out] at this;exact this,B6.out⟩
        case measure=>simp[intOf];omega
      ·have ej:ln+1=j:=by omega
       subst ej
       have HT3:Hid (Top F (qy F (k+1)) M'):=HT2.out.congr (fun b i=>by
        have hpl:ZJ F k=ln:=(XQ HX.out).trans HLN.out;unfold Kl qy;constructor
        ·rintro(h | h)
         ·exact⟨by omega,h.2⟩
         ·obtain⟨rfl,h⟩:=h;exact⟨by omega,by omega⟩
        ·intro h;by_cases e:b=k
         ·subst e;exact .inr ⟨rfl,by omega⟩
         ·exact .inl ⟨by omega,h.2⟩)
       go_wp2_with fail
       go_roundw
       case rel=>exact⟨M',k+1,by omega,by go_num,rfl,HT3.out,BX.out⟩
       case measure=>simp[intOf];omega
    ·have ekn:n=k:=by omega
     subst ekn;have HE:Hid (Km F=(M:Int)):=z7 (.inr ⟨HP.out,M,rfl,by rw[HN.out];exact HT.out⟩);obtain rfl:r=(M:Int):=HRR.out.symm.trans HE.out;go_wp2_with fail
     go_ret;exact⟨rfl,B5.out.trans (BQ.out.mono B5.out.size)⟩
theorem lifted (os:Os)(started:os.Started)(H:Type)(enc:TypeId × Value→H) :
  ReturnsInHanded {} Tryz.checked os 5 .any (Rows.fnBusySpec.pre6 enc Tryz.prog Tryz.f5 Rows.fnBusyRow.domain false) (Rows.fnBusySpec.post enc Tryz.prog Tryz.f5 false true false false):=by
 refine returnsInHanded_of_change (C:=Tryz.checked) own started (by kernel_rfl) Tryz.func5
  (ChangeSpec.witness6 (enc:=enc) (C:=Tryz.checked) false ⟨#[],#[.slice none 0 0],[]⟩ 8 (by kernel_rfl) (by kernel_rfl) (by kernel_rfl) (by kernel_rfl)) ?_
 intro W base args ds gs before hval0 hW hcnd _;have hval:∀(j:Nat) t v,Tryz.f5.params[j]?=some t→args[j]?=some v→Value.okWide Tryz.prog W .any base t v:=hval0;have hW':=hW;obtain⟨p,q,hA0,hV,rfl,hfz,hnd⟩:=hW;have hA:DataW.TrodAll enc Tryz.prog W 0 (fun _=>true) true Tryz.f5.params.toList args.toList ds p:=hA0;rw[Tryz.params5] at hA hval;obtain⟨v0,vs0,d0,ds0,p0,q0,hargs,rfl,rfl,h0,r0x⟩:=trodAll_cons hA;obtain⟨rfl,rfl,rfl⟩:=trodAll_nil r0x;obtain rfl:args = #[v0]:=by cases args;simp_all
 obtain⟨rfl,rfl⟩:=trodVars_none hV;have k0:=h0;have lt0:∀x∈p0,x.block<W.heap.size:=by obtain⟨m,hm⟩:=k0;exact DataW.trod_lt m _ _ _ hm
 obtain⟨a0,len0,cap0,rfl⟩:=okWide_slice Tryz.underlying22 (hval 0 22 v0 rfl rfl);obtain⟨z0,r0⟩:∃zs,Qf .u8 W a0 len0 cap0 zs:=by
  obtain⟨fuel,hf⟩:=h0;rcases open_ints Tryz.underlying22 Tryz.underlying5 (by kernel_rfl) hf with ⟨hcs,_⟩ | ⟨x,l,c,zs,hcs,_,hl,hm,hz,_,hcell,hwz⟩
  ·simp[Value.cells] at hcs;obtain⟨rfl,rfl,rfl⟩:=hcs;exact⟨[],.inl ⟨rfl,rfl,rfl,rfl⟩⟩
  ·simp[Value.cells] at hcs;obtain⟨rfl,rfl,rfl⟩:=hcs;exact⟨zs,.inr ⟨_,rfl,hl,hm,by simpa using hz,hcell,hwz⟩⟩
 clear hA0 hval0;refine(walk W a0 len0 cap0 z0 r0).mono fun e W' ⟨he,bel⟩=>?_
 subst he;exact⟨_,rfl,_,_,_,[],_,[],hW',trodAll_mk1 (shut_bool Tryz.underlying4 _),(trodAll_cons_mk (Below.trod laidOut (by kernel_rfl) (of_decide_eq_true (by kernel_rfl)) k0 bel lt0) trodAll_mk0),rfl,bel.frame _,fun h=>by cases h⟩
theorem over : Rows.fnBusyRow.holds Tryz.pinned (OpenSpec.ofChange Rows.fnBusySpec) :=
 OpenClaim.holds_of_wide 5 Tryz.f5 rfl rfl rfl rfl rfl rfl rfl ⟨rfl,rfl,rfl,rfl,rfl⟩ rfl rfl rfl rfl rfl (by kernel_rfl) Tryz.func5 (by kernel_rfl)
  (of_decide_eq_true (by kernel_rfl)) (by unfold Func.isWrapper;first | (rw[if_pos (by decide +kernel)];kernel_rfl) | (rw[if_neg (by decide +kernel)];exact⟨rfl,rfl⟩))
  (fun os started H enc _=>lifted os started H enc)
theorem proved : Rows.FnBusySaid:=over
#print axioms proved
end Go.Proofs.YtkbhbekfniadhaaGreat.fnBusy
