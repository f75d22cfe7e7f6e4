/- Proved: The law FnUsed. -/
import Derived.Test.YtinlfjgabkodcaaGreatDoorRows
import Derived.Test.YtinlfjgabkodcaaGreatDoorKCkE
import Derived.Test.YtinlfjgabkodcaaGreatDoorTie
import Derived.Test.YtinlfjgabkodcaaGreatDoorCards
import Derived.SevenTiedAt
import Derived.Test.YtinlfjgabkodcaaGreatDoorKUsS
import Derived.Test.YtinlfjgabkodcaaGreatDoorKUsC
import Derived.Test.YtinlfjgabkodcaaGreatDoorKDrD
import Derived.Test.YtinlfjgabkodcaaGreatDoorKTo
import Derived.Handy
import Derived.Deep.RegionWith
import Derived.BigRegion
import Derived.Deep.QuietTactic
import Derived.BigQuiet
import Derived.WalkKit
import Derived.ProofKit
import Derived.OpenShut
import Derived.ShutString
import Derived.ChangeOld
import Derived.Below
namespace Go.Proofs.YtinlfjgabkodcaaGreatDoor.fnUsed
open Go.ChangeShapes Go.WideShapes Go.ChangeAt Go.RowKit
open Go.ChangeMaps (open_string shut_string)
set_option linter.unusedVariables false
theorem laidOut : laidOutB Tryz.prog=true:=by kernel_rfl
set_option maxRecDepth 100000 in
set_option maxHeartbeats 64000000 in
set_option maxHeartbeats 4000000 in
theorem walk (w:World)(a0:Option Addr)(len0 cap0:Nat)(z0:List Int)(r0:IsRow .u8 w a0 len0 cap0 z0)(hg:HandleAt w) :
  Calls Tryz.prog 3 #[.slice a0 len0 cap0] w fun e w'=>e = .returned (.bool true)∧Below w.heap.size w w':=by
 have HR:Hid (IsRow .u8 w a0 len0 cap0 z0):=r0
 have HG:Hid (HandleAt w):=hg
 clear r0 hg
 go_enter Tryz.func3,Tryz.ntmps3
 go_wp2_with fail
 refine(big_any a0 len0 cap0 _).mono ?_
 rintro e w1 ⟨t,rfl,rfl⟩
 cases t with
 | true=>
  go_wp2_with fail
  go_ret
  exact⟨rfl,Below.refl _ _⟩
 | false=>
  go_wp2_with fail
  refine(DrawUsed_any a0 len0 cap0 z0 _ HR.out).mono ?_
  rintro e w2 ⟨v,F,rfl,hF,hn0,hn9,b2⟩
  obtain⟨n,HN⟩:∃n,Hid (F.blocks.length=n):=⟨_,rfl⟩
  obtain⟨vals,HV⟩:∃x,Hid (F.values=x):=⟨_,rfl⟩
  have F2:Hid (FnAt w2 v F):=FnAtLo.low (Nat.zero_le _) hF
  obtain⟨ba,bcap,rfl⟩:=F2.out.out HN.out HV.out
  have B2:Hid (Below w1.heap.size w1 w2):=b2
  clear hF b2 hn0
  obtain⟨c,HC⟩:∃c,Hid (checkOf F=c):=⟨_,rfl⟩
  obtain⟨L,HL⟩:∃L,Hid (usedAll F=L):=⟨_,rfl⟩
  obtain⟨m,HM⟩:∃m,Hid (L.length=m):=⟨_,rfl⟩
  have hm100:m≤100:=by have:=used_bound F;rw[HL.out,HM.out] at this;exact this
  have HZ:Hid (0<m→checkOf F=0):=fun hm=>Classical.byContradiction fun hne=>by
   have:=used_none hne
   rw[HL.out] at this
   have h2:=HM.out
   rw[this] at h2
   simp at h2
   omega
  have hn16:n≤1000:=by have:=HN.out;omega
  clear hn9
  go_wp2_with fail
  refine(impl_used _ F _ (F2.out.later (Bel.alloc _ _)) (HG.out.keep (Bel.after B2.out (Bel.alloc _ _)))).mono ?_
  rw[HL.out]
  rintro e w3 ⟨uv,rfl,o1,b3⟩
  have B3:Hid (Below w1.heap.size w1 w3):=Bel.after (Bel.after B2.out (Bel.alloc _ _)) b3
  have F3:Hid (FnAt w3 (.agg #[.slice ba n bcap,.int .i64 vals]) F):=(F2.out.later (Bel.alloc _ _)).later b3
  have c0:=box_cell b3 0
  have c1:=box_cell b3 1
  simp at c0 c1
  have O1:Hid (BoolsAt w3 uv L):=o1.at
  obtain⟨ua,ucap,rfl,hum,_⟩:=o1.at
  rw[HM.out] at O1 hum ⊢
  clear b3 F2 B2 o1
  obtain⟨FB,hFB⟩:∃x,w2.heap.size=x:=⟨_,rfl⟩
  rw[hFB] at c0 c1 ⊢
  clear hFB
  go_wp2_with fail
  refine(spec_used _ F _ F3.out).mono ?_
  rw[HL.out]
  rintro e w4 ⟨sv,rfl,o2,b4⟩
  have B4:Hid (Below w1.heap.size w1 w4):=Bel.after B3.out b4
  have F4:Hid (FnAt w4 (.agg #[.slice ba n bcap,.int .i64 vals]) F):=F3.out.later b4
  have C0:Hid (w4.cell? ⟨FB,0,none⟩=some (.slice ba n bcap)):=Bel.keeps b4 c0
  have C1:Hid (w4.cell? ⟨FB,1,none⟩=some (.int .i64 vals)):=Bel.keeps b4 c1
  have O4:Hid (BoolsAt w4 (.slice ua m ucap) L):=O1.out.keep b4
  have O2:Hid (BoolsAt w4 sv L):=o2.at
  obtain⟨sa,scap,rfl,_,_⟩:=o2.at
  rw[HM.out] at O2 ⊢
  clear b4 F3 B3 c0 c1 o2 O1
  have hmm:((m:Int) != (m:Int))=false:=by simp
  go_wp2_with fail
  clear hmm
  go_loopw [6] (fun i wr=>∃k:Nat,k≤m∧i = .int .i64 (k:Int)∧Below w4.heap.size w4 wr) (fun i _=>m-(intOf i).toNat)
  case atStart=>exact⟨0,Nat.zero_le _,rfl,Below.refl _ _⟩
  case round=>
   obtain⟨wq,hwq⟩:∃x,x=wr:=⟨_,rfl⟩
   subst hwq
   obtain⟨k,hk,rfl,hB⟩:=hrel
   have HB:Hid (Below w4.heap.size w4 wq):=hB
   clear hB
   by_cases hlt:(k:Int)<(m:Int)
   ·obtain⟨b,off,rfl,q1⟩:=O4.out.cells _ HB.out k (by omega)
    obtain⟨b',off',rfl,q2⟩:=O2.out.cells _ HB.out k (by omega)
    obtain⟨x,HX⟩:∃x,Hid (L.getD k false=x):=⟨_,rfl⟩
    rw[HX.out] at q1 q2
    cases x
    all_goals
     go_wp2
     go_quiet (fail)
     go_wp2
     go_roundw
     case rel=>exact⟨k+1,by omega,by go_num,HB.out.trans ⟨rfl,rfl,rfl,Nat.le_refl _,fun _ _=>rfl⟩⟩
     case measure=>simp[intOf];omega
   ·have d0:=Bel.keeps HB.out C0.out
    have d1:=Bel.keeps HB.out C1.out
    go_wp2_with fail
    clear d0 d1
    go_loopw [7] (fun i wr=>∃k:Nat,k≤n∧i = .int .i64 (k:Int)∧Below w4.heap.size w4 wr) (fun i _=>n-(intOf i).toNat)
    case atStart=>exact⟨0,Nat.zero_le _,rfl,HB.out⟩
    case round=>
     clear hlt hk HB
     obtain⟨wq,hwq⟩:∃x,x=wr:=⟨_,rfl⟩
     subst hwq
     obtain⟨k,hk,rfl,hB⟩:=hrel
     have HB:Hid (Below w4.heap.size w4 wq):=hB
     have d0:=Bel.keeps hB C0.out
     have d1:=Bel.keeps hB C1.out
     clear hB
     by_cases hlt:(k:Int)<(n:Int)
     ·by_cases hmp:0<(m:Int)
      ·have hkn:k<n:=by omega
       have H0:Hid (checkOf F=0):=HZ.out (by omega)
       have HWL:Hid (FnShape F∧¬CopyIn F∧AllReached F):=check_well H0.out
       have HVM:Hid ((m:Int)=F.values):=by show _=_;have:=used_len H0.out;rw[HL.out,HM.out] at this;exact this
       obtain⟨x,hx⟩:∃x,F.blocks[k]? = some x:=⟨_,List.getElem?_eq_getElem (by have:=HN.out;omega)⟩
       have HX:Hid (F.blocks[k]? = some x):=hx
       have HXM:Hid (x∈F.blocks):=List.mem_of_getElem? hx
       have HW:Hid (WellB F.values x):=well_block HWL.out.1 HWL.out.2.1 HXM.out
       obtain⟨b,off,rfl,hat⟩:=(F4.out.later HB.out).blockC HN.out hkn hx
       obtain⟨pv,lv,b0,b1,b2,b3,b4,b5,hps,hls⟩:=hat
       have HLS:Hid (ListAt 0 5 InsAt wq lv x.list):=hls
       obtain⟨la,lcap,rfl,hlm,_⟩:=hls
       obtain⟨nl,HNL⟩:∃n,Hid (x.list.length=n):=⟨_,rfl⟩
       rw[HNL.out] at b1 hlm HLS
       obtain⟨tk,HTK⟩:∃q,Hid (x.term.k=q):=⟨_,rfl⟩
       obtain⟨ta,HTA⟩:∃q,Hid (x.term.a=q):=⟨_,rfl⟩
       obtain⟨tt,HTT⟩:∃q,Hid (x.term.t=q):=⟨_,rfl⟩
       obtain⟨te,HTE⟩:∃q,Hid (x.term.e=q):=⟨_,rfl⟩
       rw[HTK.out] at b2
       rw[HTA.out] at b3
       rw[HTT.out] at b4
       rw[HTE.out] at b5
       have L1:Hid (wq.cell? ⟨b,off+k*6+1,none⟩=some (.slice la nl lcap)):=b1
       have L2:Hid (wq.cell? ⟨b,off+k*6+2,none⟩=some (.int .i64 tk)):=b2
       have L3:Hid (wq.cell? ⟨b,off+k*6+3,none⟩=some (.int .i64 ta)):=b3
       have L4:Hid (wq.cell? ⟨b,off+k*6+4,none⟩=some (.int .i64 tt)):=b4
       have L5:Hid (wq.cell? ⟨b,off+k*6+5,none⟩=some (.int .i64 te)):=b5
       have hnl:nl≤24:=by have:=(HWL.out.1.2.2.2.2 k x hx).2.1;have:=HNL.out;omega
       clear hx b0 b1 b2 b3 b4 b5 hps
       go_wp2_with fail
       clear d0 d1
       go_loopw [8] (fun i wr=>∃j:Nat,j≤nl∧i = .int .i64 (j:Int)∧Below wq.heap.size wq wr) (fun i _=>nl-(intOf i).toNat)
       case atStart=>exact⟨0,Nat.zero_le _,rfl,Below.refl _ _⟩
       case round=>
        obtain⟨ws,hwq⟩:∃x,x=wr:=⟨_,rfl⟩
        subst hwq
        obtain⟨j,hj,rfl,hB⟩:=hrel
        have HBS:Hid (Below wq.heap.size wq ws):=hB
        have B4S:Hid (Below w4.heap.size w4 ws):=Bel.after HB.out hB
        have d0:=Bel.keeps B4S.out C0.out
        have d1:=Bel.keeps B4S.out C1.out
        have l1:=Bel.keeps hB L1.out
        have l2:=Bel.keeps hB L2.out
        have l3:=Bel.keeps hB L3.out
        have l4:=Bel.keeps hB L4.out
        have l5:=Bel.keeps hB L5.out
        clear hB
        by_cases hltj:(j:Int)<(nl:Int)
        ·obtain⟨y,hy⟩:∃y,x.list[j]? = some y:=⟨_,List.getElem?_eq_getElem (by have:=HNL.out;omega)⟩
         obtain⟨lb,loff,rfl,q0,q1,q2,q3,q4⟩:=listAt_at (HLS.out.keep (fun b o z hb h=>h.keep (Keeps.of_below HBS.out 0) hb)) hy
         have HYM:Hid (y∈x.list):=List.mem_of_getElem? hy
         obtain⟨op,yd,ya,yb,yn⟩:=y
         dsimp only at q0 q1 q2 q3 q4
         have HDR:Hid (∀q:Nat,insDefV op yd=(q:Int)→q<m):=fun q hq=>by
          have h9:=(HW.out.ins _ HYM.out).2.1
          have hvv:=HVM.out
          dsimp only at h9
          by_cases hmk:makesV op=true
          ·rw[insDefV,if_pos hmk] at hq
           simp only[makesV,decide_eq_true_eq] at hmk
           have:=h9 (by omega)
           omega
          ·rw[insDefV,if_neg hmk] at hq
           omega
         clear hy l2 l3 l4 l5
         go_wp2_with fail
         refine(impl_insUses op yd ya yb yn _).mono ?_
         rintro e w6 ⟨usv,ub,rfl,hub,hrow,b6⟩
         have B6:Hid (Below ws.heap.size ws w6):=Bel.after (Bel.alloc _ _) b6
         have x0:=box_cell b6 0
         have x1:=box_cell b6 1
         have x2:=box_cell b6 2
         have x3:=box_cell b6 3
         have x4:=box_cell b6 4
         simp at x0 x1 x2 x3 x4
         obtain⟨XB,hXB⟩:∃x,ws.heap.size=x:=⟨_,rfl⟩
         rw[hXB] at x0 x1 x2 x3 x4 ⊢
         have HRW0:Hid (IntsAt w6 usv (usesV op ya yb)):=hrow.at
         clear hXB hub hrow b6 d0 d1 l1 q0 q1 q2 q3 q4
         go_wp2_with fail
         refine(impl_insDef op yd ya yb yn _).mono ?_
         obtain⟨dv,HDV⟩:∃q,Hid (insDefV op yd=q):=⟨_,rfl⟩
         rw[HDV.out]
         rintro e w7 ⟨rfl,b7⟩
         have X0:Hid (w7.cell? ⟨XB,0,none⟩=some (.int .i64 op)):=Bel.keeps b7 x0
         have HRW:Hid (IntsAt w7 usv (usesV op ya yb)):=HRW0.out.keep b7
         have BQ7:Hid (Below wq.heap.size wq w7):=Bel.after (Bel.after HBS.out B6.out) b7
         have B47:Hid (Below w4.heap.size w4 w7):=Bel.after HB.out BQ7.out
         have hrow:=HRW.out
         obtain⟨un,HUN⟩:∃q,Hid ((usesV op ya yb).length=q):=⟨_,rfl⟩
         obtain⟨uua,uucap,rfl,hul,_⟩:=hrow
         rw[HUN.out] at hul HRW ⊢
         clear b7 x0 x1 x2 x3 x4 HRW0
         go_wp2_with fail
         go_loopw [12] (fun i wr=>∃g:Nat,g≤un∧i = .int .i64 (g:Int)∧Below w7.heap.size w7 wr) (fun i _=>un-(intOf i).toNat)
         case atStart=>exact⟨0,Nat.zero_le _,rfl,Below.refl _ _⟩
         case round=>
          obtain⟨wt,hwq⟩:∃x,x=wr:=⟨_,rfl⟩
          subst hwq
          obtain⟨g,hg,rfl,hB⟩:=hrel
          have HBT:Hid (Below w7.heap.size w7 wt):=hB
          have B4T:Hid (Below w4.heap.size w4 wt):=Bel.after B47.out hB
          have y0:=Bel.keeps hB X0.out
          clear hB
          by_cases hltg:(g:Int)<(un:Int)
          ·obtain⟨vb,voff,rfl,uc⟩:=IntsAt.cells HRW.out _ HBT.out g (by omega)
           obtain⟨xv,HXV⟩:∃q,Hid ((usesV op ya yb).getD g 0=q):=⟨_,rfl⟩
           rw[HXV.out] at uc
           have HXU:Hid (xv∈usesV op ya yb):=by show _∈_;rw[←HXV.out];exact ck_getD_mem (by have:=HUN.out;omega)
           obtain⟨xn,hxn⟩:∃q:Nat,xv=(q:Int):=⟨xv.toNat,by have:=(HW.out.ins _ HYM.out).1 xv HXU.out;omega⟩
           subst hxn
           have hxm:xn<m:=by have:=(HW.out.ins _ HYM.out).1 _ HXU.out;have:=HVM.out;omega
           have hxm2:(xn:Int)<(m:Int):=by omega
           have HYES:Hid ((21≤op∧op≤23)∨(0≤insDefV op yd∧L.getD (insDefV op yd).toNat false=true)→L.getD xn false=true):=fun hc=>by
            have h9:=used_takes H0.out HXM.out HYM.out (by rw[HL.out];exact hc) HXU.out
            rw[HL.out] at h9
            exact h9
           obtain⟨gb,goff,rfl,gc⟩:=O4.out.cells _ B4T.out xn hxm
           by_cases h23:op=23
           ·have HT:Hid (L.getD xn false=true):=HYES.out (.inl (by omega))
            rw[HT.out] at gc
            subst h23
            go_wp2_with fail
            go_roundw
            case rel=>exact⟨g+1,by omega,by go_num,HBT.out⟩
            case measure=>simp[intOf];omega
           ·by_cases h22:op=22
            ·have HT:Hid (L.getD xn false=true):=HYES.out (.inl (by omega))
             rw[HT.out] at gc
             subst h22
             go_wp2_with fail
             go_roundw
             case rel=>exact⟨g+1,by omega,by go_num,HBT.out⟩
             case measure=>simp[intOf];omega
            ·by_cases hd0:0≤dv
             ·obtain⟨dn,rfl⟩:=Int.eq_ofNat_of_zero_le hd0
              have hdm:dn<m:=HDR.out dn HDV.out
              have hdm2:(dn:Int)<(m:Int):=by omega
              obtain⟨gb',goff',e',gd⟩:=O4.out.cells _ B4T.out dn hdm
              cases e'
              obtain⟨Q,HQ⟩:∃q,Hid (L.getD dn false=q):=⟨_,rfl⟩
              rw[HQ.out] at gd
              cases Q with
              | true=>
               have HT:Hid (L.getD xn false=true):=HYES.out (.inr ⟨by rw[HDV.out];omega,by rw[HDV.out];exact HQ.out⟩)
               rw[HT.out] at gc
               go_wp2_with fail
               go_roundw
               case rel=>exact⟨g+1,by omega,by go_num,HBT.out⟩
               case measure=>simp[intOf];omega
              | false=>
               clear gc
               go_wp2_with fail
               go_roundw
               case rel=>exact⟨g+1,by omega,by go_num,HBT.out⟩
               case measure=>simp[intOf];omega
             ·clear gc
              go_wp2_with fail
              go_roundw
              case rel=>exact⟨g+1,by omega,by go_num,HBT.out⟩
              case measure=>simp[intOf];omega
          ·go_wp2_with fail
           go_roundw
           case rel=>exact⟨j+1,by omega,by go_num,Bel.after BQ7.out HBT.out⟩
           case measure=>simp[intOf];omega
        ·go_wp2_with fail
         refine(impl_termUses tk ta tt te _).mono ?_
         rintro e w6 ⟨ev,eb,rfl,heb,hrow,b6⟩
         have B46:Hid (Below w4.heap.size w4 w6):=Bel.after B4S.out b6
         have HRW:Hid (IntsAt w6 ev (endsV tk ta)):=hrow.at
         obtain⟨un,HUN⟩:∃q,Hid ((endsV tk ta).length=q):=⟨_,rfl⟩
         obtain⟨uua,uucap,rfl,hul,_⟩:=hrow.at
         rw[HUN.out] at hul HRW ⊢
         clear b6 heb hrow d0 d1 l1 l2 l3 l4 l5
         by_cases hup:0<(un:Int)
         ·obtain⟨vb,voff,rfl,uc⟩:=IntsAt.cells HRW.out _ (Below.refl _ _) 0 (by omega)
          obtain⟨xv,HXV⟩:∃q,Hid ((endsV tk ta).getD 0 0=q):=⟨_,rfl⟩
          rw[HXV.out,Nat.add_zero] at uc
          have HXU:Hid (xv∈endsV x.term.k x.term.a):=by show _∈_;rw[HTK.out,HTA.out,←HXV.out];exact ck_getD_mem (by have:=HUN.out;omega)
          obtain⟨xn,hxn⟩:∃q:Nat,xv=(q:Int):=⟨xv.toNat,by have:=HW.out.fin xv HXU.out;omega⟩
          subst hxn
          have hxm:xn<m:=by have:=HW.out.fin _ HXU.out;have:=HVM.out;omega
          have hxm2:(xn:Int)<(m:Int):=by omega
          have HT:Hid (L.getD xn false=true):=by
           show _=_
           have h9:=used_fin H0.out HXM.out HXU.out
           rw[HL.out] at h9
           exact h9
          obtain⟨gb,goff,rfl,gc⟩:=O4.out.cells _ B46.out xn hxm
          rw[HT.out] at gc
          go_wp2_with fail
          go_roundw
          case rel=>exact⟨k+1,by omega,by go_num,B46.out⟩
          case measure=>simp[intOf];omega
         ·go_wp2_with fail
          go_roundw
          case rel=>exact⟨k+1,by omega,by go_num,B46.out⟩
          case measure=>simp[intOf];omega
      ·go_wp2_with fail
       refine(impl_check _ F _ (F4.out.later HB.out) (HG.out.keep (Bel.after B4.out HB.out))).mono ?_
       rw[HC.out]
       rintro e w5 ⟨rfl,b5⟩
       have B5:Hid (Below w1.heap.size w1 w5):=Bel.after (Bel.after B4.out HB.out) b5
       clear b5 d0 d1
       by_cases hc:c=0
       ·have hc0:(c == 0)=true:=by simp[hc]
        clear hc
        go_wp2_with fail
        go_ret
        exact⟨rfl,B5.out⟩
       ·have hc0:(c == 0)=false:=by simp[hc]
        obtain rfl:m=0:=Nat.eq_zero_of_not_pos (fun hp=>hc (HC.out.symm.trans (HZ.out hp)))
        clear hc
        go_wp2_with fail
        go_ret
        exact⟨rfl,B5.out⟩
     ·go_wp2_with fail
      refine(impl_check _ F _ (F4.out.later HB.out) (HG.out.keep (Bel.after B4.out HB.out))).mono ?_
      rw[HC.out]
      rintro e w5 ⟨rfl,b5⟩
      have B5:Hid (Below w1.heap.size w1 w5):=Bel.after (Bel.after B4.out HB.out) b5
      clear b5 d0 d1
      by_cases hc:c=0
      ·have hc0:(c == 0)=true:=by simp[hc]
       clear hc
       go_wp2_with fail
       go_ret
       exact⟨rfl,B5.out⟩
      ·have hc0:(c == 0)=false:=by simp[hc]
       obtain rfl:m=0:=Nat.eq_zero_of_not_pos (fun hp=>hc (HC.out.symm.trans (HZ.out hp)))
       clear hc
       go_wp2_with fail
       go_ret
       exact⟨rfl,B5.out⟩
set_option maxRecDepth 100000 in
theorem lifted (os:Os)(started:os.Started)(H:Type)(enc:TypeId × Value→H) :
  ReturnsInHanded {} Tryz.checked os 3 .any (fun w args=>(Rows.fnUsedSpec.pre enc Tryz.prog Tryz.f3 [] false w args∧laidMetH Tryz.prog Rows.fnUsedRow.laid w)∧sizedMet enc Tryz.prog Tryz.f3 (OpenSpec.ofChange Rows.fnUsedSpec) false w args)
   (Rows.fnUsedSpec.post enc Tryz.prog Tryz.f3 false true false false):=by
 refine returnsInHanded_of_change_and (C:=Tryz.checked) (X:=fun w _=>laidMetH Tryz.prog Rows.fnUsedRow.laid w) (fun _ _ _ hh h=>h.of_heap hh) own started (by kernel_rfl) Tryz.func3
  (ChangeSpec.witness_at (enc:=enc) (C:=Tryz.checked) (os:=os) (X:=fun w _=>laidMetH Tryz.prog Rows.fnUsedRow.laid w) false (laidWorld os) #[.slice none 0 0] 8 rfl (by kernel_rfl) (by kernel_rfl) (by kernel_rfl) (by kernel_rfl) (by kernel_rfl) (laidWorld_met os _)) ?_
 intro W base args ds gs before hval0 hW _ _ hL _
 have hval:∀(j:Nat) t v,Tryz.f3.params[j]? = some t→args[j]? = some v→Value.okWide Tryz.prog W .any base t v:=hval0
 have hW':=hW
 obtain⟨p,q,hA0,hV,rfl,hfz,hnd⟩:=hW
 have hA:DataW.TrodAll enc Tryz.prog W 0 (fun _=>true) true Tryz.f3.params.toList args.toList ds p:=hA0
 rw[Tryz.params3] at hA hval
 obtain⟨v0,vs0,d0,ds0,p0,q0,hargs,rfl,rfl,h0,r0x⟩:=trodAll_cons hA
 obtain⟨rfl,rfl,rfl⟩:=trodAll_nil r0x
 obtain rfl:args = #[v0]:=by cases args;simp_all
 obtain⟨rfl,rfl⟩:=trodVars_none hV
 have hg:=of_laid hL
 have k0:=h0
 have lt0:∀x∈p0,x.block<W.heap.size:=by obtain⟨m,hm⟩:=k0;exact DataW.trod_lt m _ _ _ hm
 obtain⟨a0,len0,cap0,rfl⟩:=okWide_slice Tryz.underlying22 (hval 0 22 v0 rfl rfl)
 obtain⟨z0,r0⟩:∃zs,IsRow .u8 W a0 len0 cap0 zs:=by
  obtain⟨fuel,hf⟩:=h0
  rcases open_ints Tryz.underlying22 Tryz.underlying5 (by kernel_rfl) hf with ⟨hcs,_⟩ | ⟨x,l,c,zs,hcs,_,hl,hm,hz,_,hcell,hwz⟩
  ·simp[Value.cells] at hcs
   obtain⟨rfl,rfl,rfl⟩:=hcs
   exact⟨[],.inl ⟨rfl,rfl,rfl,rfl⟩⟩
  ·simp[Value.cells] at hcs
   obtain⟨rfl,rfl,rfl⟩:=hcs
   exact⟨zs,.inr ⟨_,rfl,hl,hm,by simpa using hz,hcell,hwz⟩⟩
 clear hA0 hval0
 refine(walk W a0 len0 cap0 z0 r0 hg).mono fun e W' ⟨he,bel⟩=>?_
 subst he
 exact⟨_,rfl,_,_,_,[],_,[],hW',trodAll_mk1 (shut_bool Tryz.underlying4 _),(trodAll_cons_mk (Below.trod laidOut (by kernel_rfl) (of_decide_eq_true (by kernel_rfl)) k0 bel lt0) trodAll_mk0),rfl,bel.frame _,fun h=>by cases h⟩
theorem over : Rows.fnUsedRow.holds Tryz.pinned (OpenSpec.ofChange Rows.fnUsedSpec) :=
 OpenClaim.holds_of_wide 3 Tryz.f3 rfl rfl rfl rfl rfl rfl rfl ⟨rfl,rfl,rfl,rfl,rfl⟩ rfl rfl rfl rfl rfl (by kernel_rfl) Tryz.func3 (by kernel_rfl)
  (of_decide_eq_true (by kernel_rfl)) (by unfold Func.isWrapper;first | (rw[if_pos (by decide +kernel)];kernel_rfl) | (rw[if_neg (by decide +kernel)];exact⟨rfl,rfl⟩))
  (fun os started H enc _=>lifted os started H enc)
theorem proved : Rows.FnUsedCardSaid :=
 Claim7.holds_tied_plain_at .later [] [.handle] true Rows.fnUsedCard.stood.harness true
  over (fun _ h=>by cases h) (by kernel_rfl) (fun _ h=>by cases h) fnUsed_row_tie rfl ⟨rfl,rfl⟩ (by kernel_rfl) rfl
  (fun f fn hf hfn=>by
   obtain rfl:f=3:=Option.some.inj ((show Tryz.prog.funcNamed Rows.fnUsedRow.func=some 3 by kernel_rfl).symm.trans hf) |>.symm
   obtain rfl:fn=Tryz.f3:=(Option.some.inj (Tryz.func3.symm.trans hfn)).symm
   exact⟨by kernel_rfl,fun j t ht=>by
    rw[Tryz.params3] at ht
    have hm:t∈[22]:=by simpa using Array.mem_of_getElem? ht
    have hall:([22].all fun u=>!Tryz.prog.wantsStandIn u)=true:=by kernel_rfl
    exact(show Tryz.prog.wantsStandIn t=false by simpa using List.all_eq_true.1 hall t hm)⟩)
  (by kernel_rfl)
#print axioms proved
end Go.Proofs.YtinlfjgabkodcaaGreatDoor.fnUsed
