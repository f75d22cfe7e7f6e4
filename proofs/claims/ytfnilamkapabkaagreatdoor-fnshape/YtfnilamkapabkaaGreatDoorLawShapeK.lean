/- Proved: of every drawn program ShapeOk of the program answers as the model does; where it has no shape nothing is told of it by Run, Order, Doms, Critical, Cost and Check; where it has one the blocks that follow are there, and a run with no fuel has none left; the row lists the library's handle of the type error, tied to the program's text. -/
import Derived.Test.YtfnilamkapabkaaGreatDoorRows
import Derived.Test.YtfnilamkapabkaaGreatDoorKCkE
import Derived.Test.YtfnilamkapabkaaGreatDoorTie
import Derived.Test.YtfnilamkapabkaaGreatDoorCards
import Derived.SevenTiedAt
import Derived.Test.YtfnilamkapabkaaGreatDoorKIns
import Derived.Test.YtfnilamkapabkaaGreatDoorKSeq
import Derived.Test.YtfnilamkapabkaaGreatDoorKCkT
import Derived.Test.YtfnilamkapabkaaGreatDoorKMake
import Derived.Test.YtfnilamkapabkaaGreatDoorKCkA
import Derived.Test.YtfnilamkapabkaaGreatDoorKRound
import Derived.Test.YtfnilamkapabkaaGreatDoorKTab
import Derived.Test.YtfnilamkapabkaaGreatDoorKSh5
import Derived.Test.YtfnilamkapabkaaGreatDoorKDrD
import Derived.Test.YtfnilamkapabkaaGreatDoorKWalk
import Derived.Test.YtfnilamkapabkaaGreatDoorKShpL
import Derived.Test.YtfnilamkapabkaaGreatDoorKCritZ
import Derived.Test.YtfnilamkapabkaaGreatDoorKGraph
import Derived.WalkKit
import Derived.ProofKit
import Derived.OpenShut
import Derived.ShutString
import Derived.ChangeOld
import Derived.Below
namespace Go.Proofs.YtfnilamkapabkaaGreatDoor.fnShape
open Go.ChangeShapes Go.WideShapes Go.ChangeAt Go.RowKit
open Go.ChangeMaps (open_string shut_string)
set_option linter.unusedVariables false
theorem laidOut : laidOutB Tryz.prog=true:=by kernel_rfl
set_option maxRecDepth 100000 in
set_option maxHeartbeats 64000000 in
set_option maxHeartbeats 4000000 in
theorem walk (w:World)(a0:Option Addr)(len0 cap0:Nat)(z0:List Int)(r0:IsRow .u8 w a0 len0 cap0 z0)(hg:HandleAt w) :
  Calls Tryz.prog 3 #[.slice a0 len0 cap0] w fun e w'=>e = .returned (.bool true)∧Below w.heap.size w w':=by
 have HR:Hid (IsRow .u8 w a0 len0 cap0 z0):=r0
 have HG:Hid (HandleAt w):=hg
 clear r0 hg
 go_enter Tryz.func3,Tryz.ntmps3
 go_wp2_with fail
 refine(big_any a0 len0 cap0 _).mono ?_
 rintro e w1 ⟨t,rfl,rfl⟩
 cases t with
 | true=>
  go_wp2_with fail
  go_ret
  exact⟨rfl,Below.refl _ _⟩
 | false=>
  go_wp2_with fail
  refine(DrawShapeOk_any a0 len0 cap0 z0 _ HR.out).mono ?_
  rintro e w2 ⟨v,F,rfl,hF,hn0,hn9,b2⟩
  obtain⟨n,HN⟩:∃n,Hid (F.blocks.length=n):=⟨_,rfl⟩
  obtain⟨vals,HV⟩:∃x,Hid (F.values=x):=⟨_,rfl⟩
  have F2:Hid (FnAt w2 v F):=FnAtLo.low (Nat.zero_le _) hF
  obtain⟨ba,bcap,rfl⟩:=F2.out.out HN.out HV.out
  have B2:Hid (Below w1.heap.size w1 w2):=b2
  clear hF b2 hn0 hn9
  go_wp2_with fail
  refine(impl_shapeOk _ F _ (F2.out.later (Bel.alloc _ _))).mono ?_
  rintro e w3 ⟨t,rfl,ht,b3⟩
  have HT:Hid (t=true↔FnShape F):=ht
  have B3:Hid (Below w1.heap.size w1 w3):=Bel.after (Bel.after B2.out (Bel.alloc _ _)) b3
  have F3:Hid (FnAt w3 (.agg #[.slice ba n bcap,.int .i64 vals]) F):=(F2.out.later (Bel.alloc _ _)).later b3
  have c0:=box_cell b3 0
  have c1:=box_cell b3 1
  simp at c0 c1
  clear b3 F2 B2 ht
  obtain⟨FB,hFB⟩:∃x,w2.heap.size=x:=⟨_,rfl⟩
  rw[hFB] at c0 c1 ⊢
  clear hFB
  go_wp2_with fail
  refine(spec_shapeOk _ F _ F3.out).mono ?_
  rintro e w4 ⟨t2,rfl,ht2,b4⟩
  have et:t2=t:=by
   rw[Bool.eq_iff_iff]
   exact ht2.trans HT.out.symm
  rw[et]
  have B4:Hid (Below w1.heap.size w1 w4):=Bel.after B3.out b4
  have F4:Hid (FnAt w4 (.agg #[.slice ba n bcap,.int .i64 vals]) F):=F3.out.later b4
  have C0:Hid (w4.cell? ⟨FB,0,none⟩=some (.slice ba n bcap)):=Bel.keeps b4 c0
  have C1:Hid (w4.cell? ⟨FB,1,none⟩=some (.int .i64 vals)):=Bel.keeps b4 c1
  have G4:Hid (HandleAt w4):=HG.out.keep B4.out
  have d0:=C0.out
  have d1:=C1.out
  have htt:(t != t)=false:=by simp
  clear b4 F3 B3 c0 c1 ht2 et
  go_wp2_with fail
  refine(impl_run _ _ F [] 0 _ F4.out ⟨none,0,rfl,Nat.zero_le _,by omega,fun h=>absurd h (by simp)⟩).mono ?_
  rintro e w5 ⟨tv,rfl,_,b5⟩
  obtain⟨how,HH⟩:∃q,Hid ((runOf F [] 0).2.1=q):=⟨_,rfl⟩
  obtain⟨en,HEN⟩:∃q,Hid ((runOf F [] 0).2.2=q):=⟨_,rfl⟩
  rw[HH.out,HEN.out]
  have B5:Hid (Below w4.heap.size w4 w5):=b5
  replace d0:=Bel.keeps b5 d0
  replace d1:=Bel.keeps b5 d1
  clear b5 htt
  cases t with
  | false=>
   have HNS:Hid (¬FnShape F):=fun h=>by have:=HT.out.2 h;cases this
   have eh:how=3:=by
    rw[←HH.out]
    unfold runOf
    rw[if_neg (fun h=>HNS.out h.1)]
   subst eh
   have HO:Hid (orderOf F = []):=orderOf_no HNS.out
   have HD:Hid (domsOf F = []):=domsOf_no HNS.out
   have HCR:Hid (critOf F = []):=critOf_no HNS.out
   have HCO:Hid (costOf F = -1):=costOf_no HNS.out
   have HCK:Hid (checkOf F=1):=check_1 (.inl HNS.out)
   go_wp2_with fail
   refine(impl_order _ F _ (F4.out.later B5.out)).mono ?_
   rw[HO.out]
   rintro e w6 ⟨ov,rfl,ho,b6⟩
   obtain⟨oa,ocap,rfl,_,_⟩:=ho.at
   have B6:Hid (Below w4.heap.size w4 w6):=Bel.after B5.out b6
   replace d0:=Bel.keeps b6 d0
   replace d1:=Bel.keeps b6 d1
   clear b6 ho
   go_wp2_with fail
   refine(impl_doms _ F _ (F4.out.later B6.out)).mono ?_
   rw[HD.out]
   rintro e w7 ⟨dv,rfl,hd,b7⟩
   obtain⟨da,dcap,rfl⟩:=hd.shape0
   have B7:Hid (Below w4.heap.size w4 w7):=Bel.after B6.out b7
   replace d0:=Bel.keeps b7 d0
   replace d1:=Bel.keeps b7 d1
   clear b7 hd
   go_wp2_with fail
   refine(impl_critical _ F _ (F4.out.later B7.out)).mono ?_
   rw[HCR.out]
   rintro e w8 ⟨cv,rfl,hc,b8⟩
   obtain⟨ca,ccap,rfl,_,_⟩:=hc.at
   have B8:Hid (Below w4.heap.size w4 w8):=Bel.after B7.out b8
   replace d0:=Bel.keeps b8 d0
   replace d1:=Bel.keeps b8 d1
   clear b8 hc
   go_wp2_with fail
   refine(impl_cost _ F _ (F4.out.later B8.out)).mono ?_
   rw[HCO.out]
   rintro e w9 ⟨rfl,b9⟩
   have B9:Hid (Below w4.heap.size w4 w9):=Bel.after B8.out b9
   replace d0:=Bel.keeps b9 d0
   replace d1:=Bel.keeps b9 d1
   clear b9
   have hm1:((-1:Int) == -1)=true:=by decide
   go_wp2_with fail
   refine(impl_check _ F _ (F4.out.later B9.out) (G4.out.keep B9.out)).mono ?_
   rw[HCK.out]
   rintro e w10 ⟨rfl,b10⟩
   have B10:Hid (Below w1.heap.size w1 w10):=Bel.after (Bel.after B4.out B9.out) b10
   clear b10 d0 d1
   go_wp2_with fail
   go_ret
   exact⟨rfl,B10.out⟩
  | true=>
   have HS:Hid (FnShape F):=HT.out.1 rfl
   have eh:how=1:=by
    rw[←HH.out]
    unfold runOf
    rw[if_pos ⟨HS.out,Int.le_refl _⟩]
    exact run_nought wordV HS.out
   subst eh
   have hn16:n≤16:=by have:=HS.out.2.1;have:=HN.out;omega
   clear d0 d1
   go_wp2_with fail
   go_loopw [8] (fun i wr=>∃k:Nat,k≤n∧i = .int .i64 (k:Int)∧Below w4.heap.size w4 wr) (fun i _=>n-(intOf i).toNat)
   case atStart=>exact⟨0,Nat.zero_le _,rfl,B5.out⟩
   case round=>
    obtain⟨wq,hwq⟩:∃x,x=wr:=⟨_,rfl⟩
    subst hwq
    obtain⟨k,hk,rfl,hB⟩:=hrel
    have HB:Hid (Below w4.heap.size w4 wq):=hB
    have d0:=Bel.keeps hB C0.out
    have d1:=Bel.keeps hB C1.out
    clear hB
    by_cases hlt:(k:Int)<(n:Int)
    ·go_wp2_with fail
     refine(impl_succs _ F (k:Int) _ (F4.out.later HB.out)).mono ?_
     have HSU:Hid (succsOf F (k:Int)=succsN F k):=by
      show _=_
      rw[succsOf_yes HS.out (by omega) (by have:=HN.out;omega)]
      rfl
     rw[HSU.out]
     rintro e w6 ⟨sv,rfl,hs,b6⟩
     have HQ:Hid (IntsAt w6 sv (succsN F k)):=hs.at
     have B6:Hid (Below w4.heap.size w4 w6):=Bel.after HB.out b6
     obtain⟨m,HM⟩:∃q,Hid ((succsN F k).length=q):=⟨_,rfl⟩
     obtain⟨sa,scap,rfl,hsl,_⟩:=hs.at
     rw[HM.out] at hsl HQ ⊢
     clear b6 hs d0 d1
     go_wp2_with fail
     go_loopw [10] (fun i wr=>∃j:Nat,j≤m∧i = .int .i64 (j:Int)∧Below w6.heap.size w6 wr) (fun i _=>m-(intOf i).toNat)
     case atStart=>exact⟨0,Nat.zero_le _,rfl,Below.refl _ _⟩
     case round=>
      obtain⟨ws,hwq⟩:∃x,x=wr:=⟨_,rfl⟩
      subst hwq
      obtain⟨j,hj,rfl,hB⟩:=hrel
      have HBS:Hid (Below w6.heap.size w6 ws):=hB
      have B4S:Hid (Below w4.heap.size w4 ws):=Bel.after B6.out hB
      have d0:=Bel.keeps B4S.out C0.out
      clear hB
      by_cases hltj:(j:Int)<(m:Int)
      ·obtain⟨sb,soff,rfl,sc⟩:=IntsAt.cells HQ.out _ HBS.out j (by omega)
       obtain⟨s,HSX⟩:∃q,Hid ((succsN F k).getD j 0=q):=⟨_,rfl⟩
       rw[HSX.out] at sc
       have hin:=succs_in HS.out k s (by rw[←HSX.out];exact ck_getD_mem (by have:=HM.out;omega))
       have hs0:¬s<0:=by omega
       have hs1:¬(n:Int)≤s:=by have:=HN.out;omega
       clear hin
       go_wp2
       go_quiet (fail)
       go_wp2
       go_roundw
       case rel=>exact⟨j+1,by omega,by go_num,HBS.out.trans ⟨rfl,rfl,rfl,Nat.le_refl _,fun _ _=>rfl⟩⟩
       case measure=>simp[intOf];omega
      ·go_wp2_with fail
       go_roundw
       case rel=>exact⟨k+1,by omega,by go_num,B4S.out⟩
       case measure=>simp[intOf];omega
    ·go_wp2_with fail
     go_ret
     exact⟨rfl,Bel.after B4.out HB.out⟩
set_option maxRecDepth 100000 in
theorem lifted (os:Os)(started:os.Started)(H:Type)(enc:TypeId × Value→H) :
  ReturnsInHanded {} Tryz.checked os 3 .any (fun w args=>(Rows.fnShapeSpec.pre enc Tryz.prog Tryz.f3 [] false w args∧laidMetH Tryz.prog Rows.fnShapeRow.laid w)∧sizedMet enc Tryz.prog Tryz.f3 (OpenSpec.ofChange Rows.fnShapeSpec) false w args)
   (Rows.fnShapeSpec.post enc Tryz.prog Tryz.f3 false true false false):=by
 refine returnsInHanded_of_change_and (C:=Tryz.checked) (X:=fun w _=>laidMetH Tryz.prog Rows.fnShapeRow.laid w) (fun _ _ _ hh h=>h.of_heap hh) own started (by kernel_rfl) Tryz.func3
  (ChangeSpec.witness_at (enc:=enc) (C:=Tryz.checked) (os:=os) (X:=fun w _=>laidMetH Tryz.prog Rows.fnShapeRow.laid w) false (laidWorld os) #[.slice none 0 0] 8 rfl (by kernel_rfl) (by kernel_rfl) (by kernel_rfl) (by kernel_rfl) (by kernel_rfl) (laidWorld_met os _)) ?_
 intro W base args ds gs before hval0 hW _ _ hL _
 have hval:∀(j:Nat) t v,Tryz.f3.params[j]? = some t→args[j]? = some v→Value.okWide Tryz.prog W .any base t v:=hval0
 have hW':=hW
 obtain⟨p,q,hA0,hV,rfl,hfz,hnd⟩:=hW
 have hA:DataW.TrodAll enc Tryz.prog W 0 (fun _=>true) true Tryz.f3.params.toList args.toList ds p:=hA0
 rw[Tryz.params3] at hA hval
 obtain⟨v0,vs0,d0,ds0,p0,q0,hargs,rfl,rfl,h0,r0x⟩:=trodAll_cons hA
 obtain⟨rfl,rfl,rfl⟩:=trodAll_nil r0x
 obtain rfl:args = #[v0]:=by cases args;simp_all
 obtain⟨rfl,rfl⟩:=trodVars_none hV
 have hg:=of_laid hL
 have k0:=h0
 have lt0:∀x∈p0,x.block<W.heap.size:=by obtain⟨m,hm⟩:=k0;exact DataW.trod_lt m _ _ _ hm
 obtain⟨a0,len0,cap0,rfl⟩:=okWide_slice Tryz.underlying22 (hval 0 22 v0 rfl rfl)
 obtain⟨z0,r0⟩:∃zs,IsRow .u8 W a0 len0 cap0 zs:=by
  obtain⟨fuel,hf⟩:=h0
  rcases open_ints Tryz.underlying22 Tryz.underlying5 (by kernel_rfl) hf with ⟨hcs,_⟩ | ⟨x,l,c,zs,hcs,_,hl,hm,hz,_,hcell,hwz⟩
  ·simp[Value.cells] at hcs
   obtain⟨rfl,rfl,rfl⟩:=hcs
   exact⟨[],.inl ⟨rfl,rfl,rfl,rfl⟩⟩
  ·simp[Value.cells] at hcs
   obtain⟨rfl,rfl,rfl⟩:=hcs
   exact⟨zs,.inr ⟨_,rfl,hl,hm,by simpa using hz,hcell,hwz⟩⟩
 clear hA0 hval0
 refine(walk W a0 len0 cap0 z0 r0 hg).mono fun e W' ⟨he,bel⟩=>?_
 subst he
 exact⟨_,rfl,_,_,_,[],_,[],hW',trodAll_mk1 (shut_bool Tryz.underlying4 _),(trodAll_cons_mk (Below.trod laidOut (by kernel_rfl) (of_decide_eq_true (by kernel_rfl)) k0 bel lt0) trodAll_mk0),rfl,bel.frame _,fun h=>by cases h⟩
theorem over : Rows.fnShapeRow.holds Tryz.pinned (OpenSpec.ofChange Rows.fnShapeSpec) :=
 OpenClaim.holds_of_wide 3 Tryz.f3 rfl rfl rfl rfl rfl rfl rfl ⟨rfl,rfl,rfl,rfl,rfl⟩ rfl rfl rfl rfl rfl (by kernel_rfl) Tryz.func3 (by kernel_rfl)
  (of_decide_eq_true (by kernel_rfl)) (by unfold Func.isWrapper;first | (rw[if_pos (by decide +kernel)];kernel_rfl) | (rw[if_neg (by decide +kernel)];exact⟨rfl,rfl⟩))
  (fun os started H enc _=>lifted os started H enc)
theorem proved : Rows.FnShapeCardSaid :=
 Claim7.holds_tied_plain_at .later [] [.handle] true Rows.fnShapeCard.stood.harness true
  over (fun _ h=>by cases h) (by kernel_rfl) (fun _ h=>by cases h) fnShape_row_tie rfl ⟨rfl,rfl⟩ (by kernel_rfl) rfl
  (fun f fn hf hfn=>by
   obtain rfl:f=3:=Option.some.inj ((show Tryz.prog.funcNamed Rows.fnShapeRow.func=some 3 by kernel_rfl).symm.trans hf) |>.symm
   obtain rfl:fn=Tryz.f3:=(Option.some.inj (Tryz.func3.symm.trans hfn)).symm
   exact⟨by kernel_rfl,fun j t ht=>by
    rw[Tryz.params3] at ht
    have hm:t∈[22]:=by simpa using Array.mem_of_getElem? ht
    have hall:([22].all fun u=>!Tryz.prog.wantsStandIn u)=true:=by kernel_rfl
    exact(show Tryz.prog.wantsStandIn t=false by simpa using List.all_eq_true.1 hall t hm)⟩)
  (by kernel_rfl)
#print axioms proved
end Go.Proofs.YtfnilamkapabkaaGreatDoor.fnShape
