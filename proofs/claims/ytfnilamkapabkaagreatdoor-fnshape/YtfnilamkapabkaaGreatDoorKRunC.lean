/- A run begins: the program's newWorld and newRun. Run and Path, of the program: what runDo tells. How much a run tells at most. -/
import Derived.Test.YtfnilamkapabkaaGreatDoorKRunB
import Derived.Test.YtfnilamkapabkaaGreatDoorKSh5
namespace Go.Proofs.YtfnilamkapabkaaGreatDoor
open Go.ChangeShapes Go.WideShapes Go.ChangeAt Go.RowKit Go.Shelf
set_option linter.unusedVariables false
set_option maxRecDepth 100000 in
set_option maxHeartbeats 2000000 in
theorem newWorld_any (ra:Option Addr)(rn rcap:Nat)(fuel:Int)(w:World) :
  Calls Tryz.prog 90 #[.slice ra rn rcap,.int .i64 fuel] w fun e w'=>∃g,e = .returned (.agg #[.slice ra rn rcap,.int .i64 fuel,.int .i64 0,.int .i64 0,.int .i64 0,.int .i64 0,.int .i64 0,.int .i64 0,.int .i64 0,.int .i64 0,.slice (some ⟨g,0,none⟩) 0 0])∧w.heap.size≤g∧w'.heap[g]? = some (.cells #[] 3 (0,0))∧Below w.heap.size w w':=by
 go_enter Tryz.func90,Tryz.ntmps90
 go_wp2
 refine bodyPost_ret (v := .agg #[.slice ra rn rcap,.int .i64 fuel,.int .i64 0,.int .i64 0,.int .i64 0,.int .i64 0,.int .i64 0,.int .i64 0,.int .i64 0,.int .i64 0,.slice (some ⟨w.heap.size+1,0,none⟩) 0 0]) (row_results rfl rfl ((Below.heap_alloc _ _ _ (by simp)).trans (World.alloc_heap_new w _)) Tryz.underlying81 rfl (by kernel_rfl)) rfl ?_
 exact⟨w.heap.size+1,rfl,by omega,heap_last (by simp),by repeat (first | exact Below.refl _ _ | apply Below.drew | refine Below.alloc ?_ (by simp <;> omega) _ | refine Below.setCell ?_ (by simp <;> omega) _)⟩
def runC (rv:Value)(fuel:Int)(tv bv:Value)(vals:Int)(S:Nat)(pv:Value):List Value :=
 [rv,.int .i64 fuel,.int .i64 0,.int .i64 0,.int .i64 0,.int .i64 0,.int .i64 0,.int .i64 0,.int .i64 0,.int .i64 0,tv,bv,.int .i64 vals,.pointer (some ⟨S,0,none⟩)] ++ ((List.range 80).map (fun _=>Value.int .i64 0) ++ [pv])
theorem runC_is (rv:Value)(fuel:Int)(tv bv:Value)(vals:Int)(S:Nat)(pv:Value):(((((((((((((((Tryz.zeroCells85.setIfInBounds 0 rv).setIfInBounds 1 (.int .i64 fuel)).setIfInBounds 2 (.int .i64 0)).setIfInBounds 3 (.int .i64 0)).setIfInBounds 4 (.int .i64 0)).setIfInBounds 5 (.int .i64 0)).setIfInBounds 6 (.int .i64 0)).setIfInBounds 7 (.int .i64 0)).setIfInBounds 8 (.int .i64 0)).setIfInBounds 9 (.int .i64 0)).setIfInBounds 10 tv).setIfInBounds 11 bv).setIfInBounds 12 (.int .i64 vals)).setIfInBounds 13 (.pointer (some ⟨S,0,none⟩))).setIfInBounds 94 pv)=(runC rv fuel tv bv vals S pv).toArray:=by kernel_rfl
theorem runC_val (rv:Value)(fuel:Int)(tv bv:Value)(vals:Int)(S:Nat)(pv:Value){i:Nat}(h:i<80):(runC rv fuel tv bv vals S pv)[14+i]? = some (.int .i64 0):=by
 unfold runC
 rw[List.getElem?_append_right (by simp),List.getElem?_append_left (by simp;omega)]
 simp[h]
theorem runC_last (rv:Value)(fuel:Int)(tv bv:Value)(vals:Int)(S:Nat)(pv:Value):(runC rv fuel tv bv vals S pv)[94]? = some pv:=by
 unfold runC
 rw[List.getElem?_append_right (by simp),List.getElem?_append_right (by simp)]
 simp
theorem runC_cell (rv:Value)(fuel:Int)(tv bv:Value)(vals:Int)(S:Nat)(pv:Value){i:Nat}(h:i<8):(runC rv fuel tv bv vals S pv)[2+i]? = some (.int .i64 0):=by
 unfold runC
 rw[List.getElem?_append_left (by simp;omega)]
 have:i=0∨i=1∨i=2∨i=3∨i=4∨i=5∨i=6∨i=7:=by omega
 rcases this with rfl | rfl | rfl | rfl | rfl | rfl | rfl | rfl <;> rfl
theorem run_begins {w W:World}{R S g g2:Nat}{rv bv:Value}{vals fuel:Int}{reads:List Int}(fn:Nat)(hfn:(fn:Int)=fuel)(hS:W.heap[S]? = some (.cells #[.int .i64 (-1),.int .i64 0] 100 (0,0)))(hg:W.heap[g]? = some (.cells #[] 3 (0,0)))(hg2:W.heap[g2]? = some (.cells #[] 3 (0,0)))(hne:g≠g2)
  (hSl:w.heap.size≤S) (hgl:w.heap.size≤g) (hg2l:w.heap.size≤g2) (hb:Below w.heap.size w W) (hr:ReadsAt w rv reads) (hRW:W.heap.size=R) :
  RunIs w (W.alloc (.cells (((((((((((((((Tryz.zeroCells85.setIfInBounds 0 rv).setIfInBounds 1 (.int .i64 fuel)).setIfInBounds 2 (.int .i64 0)).setIfInBounds 3 (.int .i64 0)).setIfInBounds 4 (.int .i64 0)).setIfInBounds 5 (.int .i64 0)).setIfInBounds 6 (.int .i64 0)).setIfInBounds 7 (.int .i64 0)).setIfInBounds 8 (.int .i64 0)).setIfInBounds 9 (.int .i64 0)).setIfInBounds 10 (.slice (some ⟨g,0,none⟩) 0 0)).setIfInBounds 11 bv).setIfInBounds 12 (.int .i64 vals)).setIfInBounds 13 (.pointer (some ⟨S,0,none⟩))).setIfInBounds 94 (.slice (some ⟨g2,0,none⟩) 0 0)) 85)) R S bv vals ⟨fun _=>0,fun _=>0,reads,[],[],fn⟩ (-1) 0:=by
 subst hRW
 have hSW:=(Array.getElem?_eq_some_iff.1 hS).1
 have hgW:=(Array.getElem?_eq_some_iff.1 hg).1
 have hg2W:=(Array.getElem?_eq_some_iff.1 hg2).1
 rw[runC_is]
 have hR:=World.alloc_heap_new W (.cells (runC rv fuel (.slice (some ⟨g,0,none⟩) 0 0) bv vals S (.slice (some ⟨g2,0,none⟩) 0 0)).toArray 85)
 have hc:∀o v,(runC rv fuel (.slice (some ⟨g,0,none⟩) 0 0) bv vals S (.slice (some ⟨g2,0,none⟩) 0 0))[o]? = some v→(W.alloc (.cells (runC rv fuel (.slice (some ⟨g,0,none⟩) 0 0) bv vals S (.slice (some ⟨g2,0,none⟩) 0 0)).toArray 85)).cell? ⟨W.heap.size,o,none⟩=some v:=fun o v h=>by
  simp only[World.cell?];rw[hR];simpa using h
 have hS2:=(Below.heap_alloc W (.cells (runC rv fuel (.slice (some ⟨g,0,none⟩) 0 0) bv vals S (.slice (some ⟨g2,0,none⟩) 0 0)).toArray 85) S hSW).trans hS
 have own:∀q,W.heap[q]? = some (.cells #[] 3 (0,0))→w.heap.size≤q→OwnInts (W.alloc (.cells (runC rv fuel (.slice (some ⟨g,0,none⟩) 0 0) bv vals S (.slice (some ⟨g2,0,none⟩) 0 0)).toArray 85)) w.heap.size (.slice (some ⟨q,0,none⟩) 0 0) []:=fun q hq hl=>
  ⟨rfl,.inr ⟨q,0,#[],rfl,hl,(Below.heap_alloc W _ q (Array.getElem?_eq_some_iff.1 hq).1).trans hq,Nat.le_refl _,Nat.zero_le _,rfl,rfl⟩⟩
 refine⟨rv,.slice (some ⟨g,0,none⟩) 0 0,.slice (some ⟨g2,0,none⟩) 0 0,⟨⟨_,hR⟩,⟨_,hS2⟩,hc 0 _ rfl,hc 1 _ (by rw[←hfn];rfl),fun i hi=>hc _ _ (runC_cell _ _ _ _ _ _ _ hi),hc 10 _ rfl,hc 11 _ rfl,hc 12 _ rfl,hc 13 _ rfl,fun i hi=>hc _ _ (runC_val _ _ _ _ _ _ _ hi),hc 94 _ (runC_last _ _ _ _ _ _ _),?_,?_,by omega⟩,hr,own g hg hgl,own g2 hg2 hg2l,?_,hb.alloc hb.size _,hb.size,hSl⟩
 ·simp[World.cell?,hS2]
 ·simp[World.cell?,hS2]
 ·intro q e1 e2
  have e3:g=q:=by simpa [Value.ownBlock] using e1
  have e4:g2=q:=by simpa [Value.ownBlock] using e2
  omega
def GivesRun (w:World)(bv:Value)(vals:Int)(s:RunS)(e:Ending)(w':World):Prop := ∃R S,e = .returned (.pointer (some ⟨R,0,none⟩))∧RunIs w w' R S bv vals s (-1) 0
theorem givesRun {w w':World}{bv:Value}{vals:Int}{s:RunS}{R S:Nat}(h:RunIs w w' R S bv vals s (-1) 0):GivesRun w bv vals s (.returned (.pointer (some ⟨R,0,none⟩))) w':=⟨R,S,rfl,h⟩
set_option maxRecDepth 100000 in
set_option maxHeartbeats 4000000 in
theorem newRun_any (ba:Option Addr)(n bcap:Nat)(vals:Int)(rv:Value)(reads:List Int)(fuel:Int)(hf:0≤fuel)(w:World)(hr:ReadsAt w rv reads) :
  Calls Tryz.prog 45 #[.agg #[.slice ba n bcap,.int .i64 vals],rv,.int .i64 fuel] w fun e w'=>GivesRun w (.slice ba n bcap) vals (startDo reads fuel) e w':=by
 obtain⟨ra,rcap,rfl,hr1,hr2,hr3⟩:=id hr
 obtain⟨rn,HRN⟩:∃n,Hid (reads.length=n):=⟨_,rfl⟩
 rw[HRN.out] at hr ⊢
 have HRD:Hid (ReadsAt w (.slice ra rn rcap) reads):=hr
 obtain⟨fq,HFQ⟩:∃fq:Nat,Hid ((min fuel 5000).toNat=fq):=⟨_,rfl⟩
 have HST:Hid (startDo reads fuel=⟨fun _=>0,fun _=>0,reads,[],[],fq⟩):=by
  show startDo reads fuel=_
  unfold startDo
  rw[HFQ.out]
 rw[HST.out]
 clear hr hr1 hr2 hr3
 by_cases hfu:fuel≤5000
 ·have HFE:Hid ((fq:Int)=fuel):=by have:=HFQ.out;show(fq:Int)=fuel;omega
  go_enter Tryz.func45,Tryz.ntmps45
  go_wp2
  rename_i Q9 K9 hK9
  obtain⟨x0,x1⟩:=box2 w (.slice ba n bcap) (.int .i64 vals) 26
  have HB0:Hid (Below w.heap.size w (w.alloc (.cells #[.slice ba n bcap,.int .i64 vals] 26))):=Bel.alloc _ _
  have hB:w.heap.size<(w.alloc (.cells #[.slice ba n bcap,.int .i64 vals] 26)).heap.size:=by simp
  have hws:w.heap.size<(w.alloc (.cells #[.slice ba n bcap,.int .i64 vals] 26)).heap.size:=by simp
  generalize w.alloc (.cells #[.slice ba n bcap,.int .i64 vals] 26)=w0 at x0 x1 hB hws HB0 ⊢
  generalize hBw:w.heap.size=B at x0 x1 hB ⊢
  clear hBw
  go_region_held3 (fun w'=>w'.cell? ⟨B,0,none⟩=some (.slice ba n bcap)∧w'.cell? ⟨B,1,none⟩=some (.int .i64 vals)) (first | exact⟨z0,z1⟩ | go_keep) (first | (go_at_call 90;refine(newWorld_any ra rn rcap _ _).mono ?_;rintro e w1 ⟨g,rfl,hg,hx,hb⟩;have z0:w1.cell? ⟨B,0,none⟩=some (.slice ba n bcap):=Bel.keeps hb (by go_keep);have z1:w1.cell? ⟨B,1,none⟩=some (.int .i64 vals):=Bel.keeps hb (by go_keep);have hs1:=hb.size;have HX:Hid (w1.heap[g]? = some (.cells #[] 3 (0,0))):=hx;have B1:Hid (Below w.heap.size w w1):=(Below.trans (by repeat (first | exact HB0.out | apply Below.drew | refine Below.alloc ?_ (by first | omega | (simp;omega)) _)) (hb.mono (by first | omega | (simp[heap_drew];omega))));have HBK:Hid (Below _ _ w1):=hb;have hxl:=(Array.getElem?_eq_some_iff.1 hx).1;clear hx hb;try simp[heap_drew] at hs1;try simp[heap_drew] at hg))
  all_goals
   rename_i hheld
   clear hheld
   simp only[Exit.then]
   refine hK9 _ _ (wp_ret ?_)
   show bodyPost _ _ _ _ _ _
   refine bodyPost_ret (results_tmp rfl _ _ _) rfl ?_
   exact givesRun (run_begins fq HFE.out (by repeat (first | exact heap_last (by simp) | exact HX.out | refine(Below.heap_alloc _ _ _ (by first | omega | (simp;done) | (simp;omega))).trans ?_ | rw[heap_drew] | refine(HBK.out.block _ (by first | omega | (simp[heap_drew];omega) | simp[heap_drew])).trans ?_)) (by repeat (first | exact HX.out | refine(Below.heap_alloc _ _ _ (by first | omega | (simp;done) | (simp;omega))).trans ?_ | rw[heap_drew])) (by repeat (first | exact heap_last (by simp) | refine(Below.heap_alloc _ _ _ (by first | omega | (simp;done) | (simp;omega))).trans ?_ | rw[heap_drew] | refine(HBK.out.block _ (by first | omega | (simp[heap_drew];omega) | simp[heap_drew])).trans ?_)) (by omega) (by omega) (by omega) (by omega) (by repeat (first | exact B1.out | exact HB0.out | apply Below.drew | refine Below.alloc ?_ (by first | omega | (simp;omega)) _)) HRD.out (by simp))
 ·have HFE:Hid ((fq:Int)=5000):=by have:=HFQ.out;show(fq:Int)=5000;omega
  go_enter Tryz.func45,Tryz.ntmps45
  go_wp2
  rename_i Q9 K9 hK9
  obtain⟨x0,x1⟩:=box2 w (.slice ba n bcap) (.int .i64 vals) 26
  have HB0:Hid (Below w.heap.size w (w.alloc (.cells #[.slice ba n bcap,.int .i64 vals] 26))):=Bel.alloc _ _
  have hB:w.heap.size<(w.alloc (.cells #[.slice ba n bcap,.int .i64 vals] 26)).heap.size:=by simp
  have hws:w.heap.size<(w.alloc (.cells #[.slice ba n bcap,.int .i64 vals] 26)).heap.size:=by simp
  generalize w.alloc (.cells #[.slice ba n bcap,.int .i64 vals] 26)=w0 at x0 x1 hB hws HB0 ⊢
  generalize hBw:w.heap.size=B at x0 x1 hB ⊢
  clear hBw
  go_region_held3 (fun w'=>w'.cell? ⟨B,0,none⟩=some (.slice ba n bcap)∧w'.cell? ⟨B,1,none⟩=some (.int .i64 vals)) (first | exact⟨z0,z1⟩ | go_keep) (first | (go_at_call 90;refine(newWorld_any ra rn rcap _ _).mono ?_;rintro e w1 ⟨g,rfl,hg,hx,hb⟩;have z0:w1.cell? ⟨B,0,none⟩=some (.slice ba n bcap):=Bel.keeps hb (by go_keep);have z1:w1.cell? ⟨B,1,none⟩=some (.int .i64 vals):=Bel.keeps hb (by go_keep);have hs1:=hb.size;have HX:Hid (w1.heap[g]? = some (.cells #[] 3 (0,0))):=hx;have B1:Hid (Below w.heap.size w w1):=(Below.trans (by repeat (first | exact HB0.out | apply Below.drew | refine Below.alloc ?_ (by first | omega | (simp;omega)) _)) (hb.mono (by first | omega | (simp[heap_drew];omega))));have HBK:Hid (Below _ _ w1):=hb;have hxl:=(Array.getElem?_eq_some_iff.1 hx).1;clear hx hb;try simp[heap_drew] at hs1;try simp[heap_drew] at hg))
  all_goals
   rename_i hheld
   clear hheld
   simp only[Exit.then]
   refine hK9 _ _ (wp_ret ?_)
   show bodyPost _ _ _ _ _ _
   refine bodyPost_ret (results_tmp rfl _ _ _) rfl ?_
   exact givesRun (run_begins fq HFE.out (by repeat (first | exact heap_last (by simp) | exact HX.out | refine(Below.heap_alloc _ _ _ (by first | omega | (simp;done) | (simp;omega))).trans ?_ | rw[heap_drew] | refine(HBK.out.block _ (by first | omega | (simp[heap_drew];omega) | simp[heap_drew])).trans ?_)) (by repeat (first | exact HX.out | refine(Below.heap_alloc _ _ _ (by first | omega | (simp;done) | (simp;omega))).trans ?_ | rw[heap_drew])) (by repeat (first | exact heap_last (by simp) | refine(Below.heap_alloc _ _ _ (by first | omega | (simp;done) | (simp;omega))).trans ?_ | rw[heap_drew] | refine(HBK.out.block _ (by first | omega | (simp[heap_drew];omega) | simp[heap_drew])).trans ?_)) (by omega) (by omega) (by omega) (by omega) (by repeat (first | exact B1.out | exact HB0.out | apply Below.drew | refine Below.alloc ?_ (by first | omega | (simp;omega)) _)) HRD.out (by simp))
open Classical in
noncomputable def runOf (F:FnD)(reads:List Int)(fuel:Int):List Int × Int × Int:=if FnShape F∧0≤fuel then((runDo wordV F reads fuel).2.2.told,(runDo wordV F reads fuel).1,(runDo wordV F reads fuel).2.1) else([],3,0)
def GivesTold (w:World)(p:List Int × Int × Int)(e:Ending)(w':World):Prop := ∃v,e = .returned (.tuple #[v,.int .i64 p.2.1,.int .i64 p.2.2])∧OwnInts w' w.heap.size v p.1∧Below w.heap.size w w'
theorem start_room (reads:List Int){fuel:Int}(h:0≤fuel):Room (startDo reads fuel)∧(startDo reads fuel).path.length+(startDo reads fuel).fuel≤5000∧(startDo reads fuel).fuel<5001:=by
 have:=startDo_fuel reads h
 unfold Room
 simp only[startDo] at *
 simp
 omega
set_option maxRecDepth 100000 in
set_option maxHeartbeats 2000000 in
theorem impl_run (v rv:Value)(F:FnD)(reads:List Int)(fuel:Int)(w:World)(hF:FnAt w v F)(hr:ReadsAt w rv reads) :
  Calls Tryz.prog 12 #[v,rv,.int .i64 fuel] w fun e w'=>GivesTold w (runOf F reads fuel) e w':=by
 have HF:Hid (FnAt w v F):=hF
 obtain⟨n,HN⟩:∃n,Hid (F.blocks.length=n):=⟨_,rfl⟩
 obtain⟨vals,HV⟩:∃x,Hid (F.values=x):=⟨_,rfl⟩
 obtain⟨ba,bcap,rfl⟩:=hF.out HN.out HV.out
 have HRD:Hid (ReadsAt w rv reads):=hr
 obtain⟨ra,rcap,rfl,_,_,_⟩:=hr
 obtain⟨rn,HRN⟩:∃n,Hid (reads.length=n):=⟨_,rfl⟩
 rw[HRN.out] at HRD ⊢
 clear hF
 go_enter Tryz.func12,Tryz.ntmps12
 go_wp2_with fail
 refine(impl_shapeOk _ F _ (HF.out.later (Bel.alloc _ _))).mono ?_
 rintro e w1 ⟨t,rfl,ht,b1⟩
 have c0:=box_cell b1 0
 have c1:=box_cell b1 1
 simp at c0 c1
 have B1:Hid (Below w.heap.size w w1):=Bel.after (Bel.alloc _ _) b1
 have HT:Hid (t=true↔FnShape F):=ht
 clear b1 ht
 generalize w.heap.size=FB at c0 c1 ⊢
 cases t with
 | false=>
  have hno:¬FnShape F:=fun h=>by have:=HT.out.2 h;cases this
  have HO:Hid (runOf F reads fuel=([],3,0)):=if_neg (fun h=>hno h.1)
  clear hno
  go_wp2_with fail
  refine bodyPost_ret (v := .tuple #[.slice (some ⟨w1.heap.size,0,none⟩) 0 0,.int .i64 3,.int .i64 0]) (by simp[results,Tryz.results12,go_sem]) rfl ?_
  rw[HO.out]
  exact⟨_,rfl,ownInts_nil rfl B1.out.size,Bel.after B1.out (Bel.alloc _ _)⟩
 | true=>
  have HS:Hid (FnShape F):=HT.out.1 rfl
  by_cases hf:0≤fuel
  ·have hf2:¬fuel<0:=by omega
   have HO:Hid (runOf F reads fuel=((runDo wordV F reads fuel).2.2.told,(runDo wordV F reads fuel).1,(runDo wordV F reads fuel).2.1)):=if_pos ⟨HS.out,hf⟩
   go_wp2_with fail
   refine(newRun_any ba n bcap vals _ reads fuel hf _ (HRD.out.keep B1.out)).mono ?_
   rintro e w2 ⟨R,S,rfl,h2⟩
   have HR2:Hid (RunIs w1 w2 R S (.slice ba n bcap) vals (startDo reads fuel) (-1) 0):=h2
   clear h2
   go_wp2_with fail
   have hroom:=start_room reads hf
   refine(all_any (W0:=w1) (R:=R) (S:=S) (bv := .slice ba n bcap) (vals:=vals) F (HF.out.later B1.out) HS.out HV.out 5001 (startDo reads fuel) 0 _ HR2.out hroom.2.2 hroom.1 hroom.2.1).mono ?_
   rintro e w3 ⟨rfl,fr,pl,h3⟩
   have HO3:Hid (RunIs w1 w3 R S (.slice ba n bcap) vals (runDo wordV F reads fuel).2.2 fr pl):=h3
   have HO4:Hid (runOf F reads fuel=((tellN wordV F 5001 0 (-1) (startDo reads fuel)).2.2.told,(tellN wordV F 5001 0 (-1) (startDo reads fuel)).1,(tellN wordV F 5001 0 (-1) (startDo reads fuel)).2.1)):=HO.out
   obtain⟨r,HRR⟩:∃r,Hid (tellN wordV F 5001 0 (-1) (startDo reads fuel)=r):=⟨_,rfl⟩
   rw[HRR.out] at HO4 h3 ⊢
   obtain⟨how,en,sE⟩:=r
   dsimp only at HO4 h3 ⊢
   obtain⟨rv3,tv3,pv3,h4⟩:=h3
   have k10:=h4.cells.c10
   have HT3:Hid (OwnInts w3 w1.heap.size tv3 sE.told):=h4.told
   have HB3:Hid (Below w1.heap.size w1 w3):=h4.below
   clear h4 hroom HO HO3 HR2
   go_wp2_with fail
   refine bodyPost_ret (v := .tuple #[tv3,.int .i64 how,.int .i64 en]) (by simp[results,Tryz.results12,go_sem]) rfl ?_
   rw[HO4.out]
   exact⟨tv3,rfl,HT3.out.low B1.out.size,Bel.after B1.out HB3.out⟩
  ·have hf2:fuel<0:=by omega
   have HO:Hid (runOf F reads fuel=([],3,0)):=if_neg (fun h=>hf h.2)
   clear hf
   go_wp2_with fail
   refine bodyPost_ret (v := .tuple #[.slice (some ⟨w1.heap.size,0,none⟩) 0 0,.int .i64 3,.int .i64 0]) (by simp[results,Tryz.results12,go_sem]) rfl ?_
   rw[HO.out]
   exact⟨_,rfl,ownInts_nil rfl B1.out.size,Bel.after B1.out (Bel.alloc _ _)⟩
end Go.Proofs.YtfnilamkapabkaaGreatDoor
