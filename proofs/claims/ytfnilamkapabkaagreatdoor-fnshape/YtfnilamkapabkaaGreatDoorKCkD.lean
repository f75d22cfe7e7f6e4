/- The deferred function of the look: what is thrown is caught. A look is built. How the look leaves: what is thrown is caught, or nothing is. The look as a whole: the first mistake, as an error. -/
import Derived.Test.YtfnilamkapabkaaGreatDoorKCkA
import Derived.Tactics
import Derived.Tactics2
import Derived.Defers
import Derived.Recover
import Derived.Laws.Pointers
import Derived.Stop.Asserts
import Derived.Test.YtfnilamkapabkaaGreatDoorKCkB
import Derived.Test.YtfnilamkapabkaaGreatDoorKCkC
import Derived.Test.YtfnilamkapabkaaGreatDoorKMake
import Derived.Test.YtfnilamkapabkaaGreatDoorKCkT
import Derived.Test.YtfnilamkapabkaaGreatDoorKRound
namespace Go.Proofs.YtfnilamkapabkaaGreatDoor
open Go.RowKit (wrap32 wrap64)
set_option linter.unusedVariables false
def mistakeV (c b p:Int):Value := .iface 102 (.agg #[.int .i64 c,.int .i64 b,.int .i64 p])
set_option maxRecDepth 100000 in
set_option maxHeartbeats 4000000 in
theorem catch_panicking (EB:Nat)(c b p:Int)(old:Value)(w:World)(hc:w.cell? ⟨EB,0,none⟩=some old)(hz:w.frozen? ⟨EB,0,none⟩=false) :
  CallsD Tryz.prog 102 #[.pointer (some ⟨EB,0,none⟩)] (.panicking (thrown c b p)) w fun e u' w'=>
   e = .returned (.tuple #[])∧u' = .panicking [{ v:=mistakeV c b p,recovered:=true }]∧w'=(w.setCell ⟨EB,0,none⟩ (mistakeV c b p)).alloc (.cells #[.int .i64 c,.int .i64 b,.int .i64 p] 102):=by
 refine callsD_of_wpS Tryz.func102 rfl fun c₀ cs hu=>?_
 apply wpS_seq
 apply wpS_region
 simp only[Tryz.ntmps102,List.size_toArray,List.length_cons,List.length_nil,Nat.reduceAdd,Nat.reduceSub,Array.replicate_succ,Array.replicate_zero,List.push_toArray,List.append_toArray,List.nil_append,List.cons_append]
 show wpOpsS _ _ _ [0,1,2,3,4,5,6,7] _ _ _
 generalize hQ:(Exit.thenS _ _:Exit→Act→List Frame→World→Prop)=Q0
 rw[wpOpsS]
 simp only[List.getElem?_toArray,List.getElem?_cons_zero]
 rw[if_pos (by rfl)]
 have h0:∀(a:Act) (o:Oper) (w:World),o.op=Op.call { callee:=Callee.builtin Builtin.recover,args := #[],argTypes := #[] }→(execOp a.eval o).run Tryz.prog w = .ok .recover w:=fun a o w h=>by simp[go_sem,h]
 have hr:recoverD (c₀ :: cs)=some (mistakeV c b p,{ c₀ with mode := .panicking [{ v:=mistakeV c b p,recovered:=true }] } :: cs):=by simp[recoverD,hu,thrown,mistakeV]
 rw[h0 _ _ _ rfl]
 simp only[hr,Act.put,List.setIfInBounds_toArray,List.set_cons_succ,List.set_cons_zero]
 have ha:=assert_yes (P:=Tryz.prog) (t:=102) (x:=20) Tryz.underlying102 (.agg #[.int .i64 c,.int .i64 b,.int .i64 p])
 generalize hC:({ c₀ with mode:=FrameMode.panicking [{ v:=mistakeV c b p,recovered:=true }] } :: cs:List Frame)=CC
 have hm:mistakeV c b p = .iface 102 (.agg #[.int .i64 c,.int .i64 b,.int .i64 p]):=rfl
 rw[hm]
 simp[wpOpsS,go_sem,ha]
 clear ha h0 hr
 subst hQ
 simp only[Exit.thenS]
 refine wpS_of_wp ?_
 have hx:EB<w.heap.size:=World.block_lt_of_cell? w _ hc
 go_wp2
 exact⟨rfl,_,hC.symm,_,results_none rfl _ _ _,rfl,rfl,rfl⟩
set_option maxRecDepth 100000 in
set_option maxHeartbeats 4000000 in
theorem catch_idle (EB:Nat)(w:World) :
  CallsD Tryz.prog 102 #[.pointer (some ⟨EB,0,none⟩)] .returning w fun e u' w'=>
   e = .returned (.tuple #[])∧u' = .returning∧w'=w.alloc (.cells #[.int .i64 0,.int .i64 0,.int .i64 0] 102):=by
 refine callsD_of_wpS Tryz.func102 rfl fun c₀ cs hu=>?_
 apply wpS_seq
 apply wpS_region
 simp only[Tryz.ntmps102,List.size_toArray,List.length_cons,List.length_nil,Nat.reduceAdd,Nat.reduceSub,Array.replicate_succ,Array.replicate_zero,List.push_toArray,List.append_toArray,List.nil_append,List.cons_append]
 show wpOpsS _ _ _ [0,1,2,3,4,5,6,7] _ _ _
 generalize hQ:(Exit.thenS _ _:Exit→Act→List Frame→World→Prop)=Q0
 rw[wpOpsS]
 simp only[List.getElem?_toArray,List.getElem?_cons_zero]
 rw[if_pos (by rfl)]
 have h0:∀(a:Act) (o:Oper) (w:World),o.op=Op.call { callee:=Callee.builtin Builtin.recover,args := #[],argTypes := #[] }→(execOp a.eval o).run Tryz.prog w = .ok .recover w:=fun a o w h=>by simp[go_sem,h]
 have hr:recoverD (c₀ :: cs)=none:=by simp[recoverD,hu]
 rw[h0 _ _ _ rfl]
 simp only[hr,Act.put,List.setIfInBounds_toArray,List.set_cons_succ,List.set_cons_zero]
 have ha:=assert_nil (P:=Tryz.prog) (t:=102) (x:=20) (z := .agg #[.int .i64 0,.int .i64 0,.int .i64 0]) Tryz.underlying102 (by kernel_rfl)
 have hC:(c₀ :: cs:List Frame) = { c₀ with mode := .returning } :: cs:=by cases c₀;simp_all
 generalize (c₀ :: cs:List Frame)=CC at hC
 simp[wpOpsS,go_sem,ha]
 clear ha h0 hr
 subst hQ
 simp only[Exit.thenS]
 refine wpS_of_wp ?_
 go_wp2
 exact⟨rfl,_,hC,_,results_none rfl _ _ _,rfl,rfl,rfl⟩
end Go.Proofs.YtfnilamkapabkaaGreatDoor
namespace Go.Proofs.YtfnilamkapabkaaGreatDoor
open Go.ChangeShapes Go.WideShapes Go.ChangeAt Go.RowKit
set_option linter.unusedVariables false
theorem run_build_look (bv:Value)(vals:Int)(T:Tab)(mb:Nat)(w:World):(Instr.build 172 #[(0,.agg #[bv,.int .i64 vals]),(1,tabV T),(2,.map (some mb))]).run Tryz.prog w = .ok (.agg (lookC bv vals T mb).toArray) w:=by kernel_rfl
end Go.Proofs.YtfnilamkapabkaaGreatDoor
namespace Go.Proofs.YtfnilamkapabkaaGreatDoor
open Go.ChangeShapes Go.WideShapes Go.ChangeAt Go.RowKit
set_option linter.unusedVariables false
theorem makes_at {F:FnD}:∀m∈makesOf F,0≤m.2.1∧m.2.1<(F.blocks.length:Int):=by
 intro m hm
 obtain⟨b,x,hx,h⟩:=mem_makesUp hm
 have hb:b<F.blocks.length:=(List.getElem?_eq_some_iff.1 hx).1
 unfold blockMakes at h
 rcases List.mem_append.1 h with h | h
 ·unfold phiMakes at h
  obtain⟨p,_,rfl⟩:=List.mem_map.1 h
  exact⟨Int.natCast_nonneg b,by show(b:Int)<_;omega⟩
 ·obtain⟨j,i,_,_,rfl⟩:=mem_insMakes h
  exact⟨Int.natCast_nonneg b,by show(b:Int)<_;omega⟩
theorem makes_few {F:FnD}(hS:FnShape F):(makesOf F).length≤1000:=by
 have h1:=makesUp_len hS F.blocks.length
 have h2:=hS.2.1
 unfold makesOf
 omega
theorem makes_wf {F:FnD}(hS:FnShape F):∀m∈makesOf F,(Lit.int .i64 m.1).wf=true:=fun m hm=>wf_val hS (makes_in hS m hm)
theorem dom_own (F:FnD):∀b,b<16→(domB F b b=true↔b∈(wayOf F).1):=fun b _=>⟨fun h=>(domB_iff.1 h).1,fun h=>domB_iff.2 (dom_refl h)⟩
theorem run_box_look (bv:Value)(vals:Int)(T:Tab)(mb:Nat)(w:World):(Instr.box 172 (.agg (lookC bv vals T mb).toArray)).run Tryz.prog w = .ok (.pointer (some ⟨w.heap.size,0,none⟩)) (w.alloc (.cells (lookC bv vals T mb).toArray 172)):=rfl
def GivesMistake (w:World)(code:Int)(e:Ending)(w':World):Prop:=((code=0∧e = .returned .nilIface)∨(code≠0∧∃b p,e = .returned (mistakeV code b p)))∧Below w.heap.size w w'
section
variable {P:Program} {ops:Array Oper} {Q:Exit→Act→World→Prop} {md:Region.Mode} {S:World→Prop}
theorem ckAnyH_twoK {i i2:Nat}{o o2:Oper}{fuel:Nat}{li:Array Bool}{a:Act}{w:World}(ho:ops[i]? = some o)(ho2:ops[i2]? = some o2)(hg:o.guard=none)(hg2:o2.guard=none)(hr:Region.ready md ops li = [i,i2])
  (h:∀K:Act→World→Prop,(∀a' w',(S w'∧wpAnyH P md ops Q S fuel (li.setIfInBounds i true) a' w')→K a' w')→o.wp P a w K Q)
  (h2:∀K:Act→World→Prop,(∀a' w',(S w'∧wpAnyH P md ops Q S fuel (li.setIfInBounds i2 true) a' w')→K a' w')→o2.wp P a w K Q):wpAnyH P md ops Q S (fuel+1) li a w:=by
 refine wpAnyH_all hr (by simp) (fun j hj=>?_)
 have e:j=i∨j=i2:=by simpa using hj
 rcases e with e | e
 ·subst e
  unfold wpOp
  simp only[ho]
  rw[if_pos (by simp[Region.wanted,hg])]
  exact .inl (h _ (fun _ _ h=>h))
 ·subst e
  unfold wpOp
  simp only[ho2]
  rw[if_pos (by simp[Region.wanted,hg2])]
  exact .inl (h2 _ (fun _ _ h=>h))
theorem wp_value {o:Oper}{a:Act}{w w':World}{K:Act→World→Prop}{v:Value}(h:(execOp a.eval o).run P w = .ok (.value v) w')(hk:K (a.put o.dst v) w'):o.wp P a w K Q:=by
 unfold Oper.wp
 rw[h]
 exact hk
theorem exec_build {ρ:Operand→Value}{o:Oper}{t:TypeId}{parts:Array (Nat × Operand)}{w w':World}{v:Value}(ho:o.op = .build t parts)(h:(Instr.build t (parts.map fun(i,x)=>(i,ρ x))).run P w = .ok v w'):(execOp ρ o).run P w = .ok (.value v) w':=by
 simp only[execOp,ho,Sem.run_bind,h]
 rfl
theorem exec_box {ρ:Operand→Value}{o:Oper}{t:TypeId}{x:Operand}{w w':World}{v:Value}(ho:o.op = .box t x)(h:(Instr.box t (ρ x)).run P w = .ok v w'):(execOp ρ o).run P w = .ok (.value v) w':=by
 simp only[execOp,ho,Sem.run_bind,h]
 rfl
def noThrow (Q:Exit→Act→World→Prop):Exit→Act→World→Prop
 | .normal,a,w=>Q .normal a w
 | _,_,_=>False
theorem wp_noThrow {c:Code}{a:Act}{w:World}(h:c.wp P (noThrow Q) a w):c.wp P Q a w:=Code.wp_mono (fun e a w h=>by cases e <;> first | exact h | exact h.elim) h
end
theorem leave_thrown (EB:Nat)(c b p:Int)(old:Value)(w:World)(hE:w.heap[EB]? = some (.cells #[old] 105 (0,0)))(tmps:Array Value)(h2:tmps[2]? = some (.pointer (some ⟨EB,0,none⟩))){R:Ending→World→Prop}(hR:∀w',Below EB w w'→R (.returned (mistakeV c b p)) w') :
  Leaves Tryz.prog Tryz.f53 tmps R [{ target:=Target.fn (Fn.func 102) #[.pointer (some ⟨EB,0,none⟩)],args := #[] }] (.panicking (thrown c b p)) w:=by
 have hlt:EB<w.heap.size:=(Array.getElem?_eq_some_iff.1 hE).1
 refine leaves_cons (f:=102) (args := #[.pointer (some ⟨EB,0,none⟩)]) (by simp) (by simp[go_sem]) ?_
 refine(catch_panicking EB c b p old w (by simp[World.cell?,hE]) (by simp[World.frozen?,hE])).mono ?_
 rintro e u' w'' ⟨rfl,rfl,rfl⟩
 have hR':=hR _ (((Below.refl EB w).setCell (p:=⟨EB,0,none⟩) (Nat.le_refl _) (mistakeV c b p)).alloc (by simp;omega) (.cells #[.int .i64 c,.int .i64 b,.int .i64 p] 102))
 have hcell:((w.setCell ⟨EB,0,none⟩ (mistakeV c b p)).alloc (.cells #[.int .i64 c,.int .i64 b,.int .i64 p] 102)).cell? ⟨EB,0,none⟩=some (mistakeV c b p):=by
  rw[World.cell?_alloc_lt _ _ ⟨EB,0,none⟩ (by simp;omega)]
  exact World.cell?_setCell_same _ _ _ (show w.cell? ⟨EB,0,none⟩=some old by simp[World.cell?,hE])
 simp[Leaves,settle,results,Tryz.results53,go_sem,h2,hcell]
 exact hR'
theorem leave_idle (EB:Nat)(rv:Value)(w:World)(hE:w.heap[EB]? = some (.cells #[rv] 105 (0,0)))(tmps:Array Value)(h2:tmps[2]? = some (.pointer (some ⟨EB,0,none⟩))){R:Ending→World→Prop}(hR:∀w',Below w.heap.size w w'→R (.returned rv) w') :
  Leaves Tryz.prog Tryz.f53 tmps R [{ target:=Target.fn (Fn.func 102) #[.pointer (some ⟨EB,0,none⟩)],args := #[] }] .returning w:=by
 have hlt:EB<w.heap.size:=(Array.getElem?_eq_some_iff.1 hE).1
 refine leaves_cons (f:=102) (args := #[.pointer (some ⟨EB,0,none⟩)]) (by simp) (by simp[go_sem]) ?_
 refine(catch_idle EB w).mono ?_
 rintro e u' w'' ⟨rfl,rfl,rfl⟩
 have hR':=hR _ ((Below.refl w.heap.size w).alloc (Nat.le_refl _) (.cells #[.int .i64 0,.int .i64 0,.int .i64 0] 102))
 have hcell:(w.alloc (.cells #[.int .i64 0,.int .i64 0,.int .i64 0] 102)).cell? ⟨EB,0,none⟩=some rv:=by
  rw[World.cell?_alloc_lt _ _ ⟨EB,0,none⟩ hlt]
  simp[World.cell?,hE]
 simp[Leaves,settle,results,Tryz.results53,go_sem,h2,hcell]
 exact hR'
theorem FrM.below {mb lo:Nat}{a b:World}(h:FrM mb a b)(h1:lo≤mb)(h2:lo≤a.heap.size):Below lo a b:=⟨h.os,h.tape,h.output,h.size,fun k hk=>h.block k (by omega) (by omega)⟩
def ErrAt (w:World)(EB:Nat)(v:Value):Prop:=w.heap[EB]? = some (.cells #[v] 105 (0,0))
theorem ErrAt.cell {w:World}{EB:Nat}{v:Value}(h:ErrAt w EB v):w.cell? ⟨EB,0,none⟩=some v:=by simp[World.cell?,show w.heap[EB]? = _ from h]
theorem ErrAt.free {w:World}{EB:Nat}{v:Value}(h:ErrAt w EB v):w.frozen? ⟨EB,0,none⟩=false:=by simp[World.frozen?,show w.heap[EB]? = _ from h]
theorem ErrAt.keep {w w':World}{EB:Nat}{v:Value}(h:ErrAt w EB v)(hb:Below w.heap.size w w'):ErrAt w' EB v:=(hb.block _ (Array.getElem?_eq_some_iff.1 h).1).trans h
theorem ErrAt.set {w:World}{EB:Nat}{v:Value}(h:ErrAt w EB v)(u:Value):ErrAt (w.setCell ⟨EB,0,none⟩ u) EB u:=by
 unfold ErrAt at *
 simp[World.setCell,Array.getElem?_modify,h]
end Go.Proofs.YtfnilamkapabkaaGreatDoor
namespace Go.Proofs.YtfnilamkapabkaaGreatDoor
open Go.ChangeShapes Go.WideShapes Go.ChangeAt Go.RowKit
set_option linter.unusedVariables false
set_option maxRecDepth 100000 in
set_option maxHeartbeats 8000000 in
theorem mistakeOf_any (v:Value)(F:FnD)(w:World)(hF:FnAt w v F) :
  Calls Tryz.prog 53 #[v] w fun e w'=>GivesMistake w (checkOf F) e w':=by
 have HF:Hid (FnAt w v F):=hF
 obtain⟨n,HN⟩:∃n,Hid (F.blocks.length=n):=⟨_,rfl⟩
 obtain⟨vals,HV⟩:∃x,Hid (F.values=x):=⟨_,rfl⟩
 obtain⟨ba,bcap,rfl⟩:=hF.out HN.out HV.out
 clear hF
 have hmf:∀(fn:Fn) (first cap:Array Value) (w:World),(Instr.makeFunc fn first cap).run Tryz.prog w = .ok (.func fn first cap) w:=fun _ _ _ _=>rfl
 go_enter_defers Tryz.func53,Tryz.ntmps53
 go_wp2_with fail
 clear hmf
 obtain⟨w1,hw1⟩:∃W,(w.alloc (.cells #[.slice ba n bcap,.int .i64 vals] 26)).alloc (.cells #[.nilIface] 105)=W:=⟨_,rfl⟩
 have hs1:w1.heap.size=w.heap.size+2:=by rw[←hw1];simp
 have C0:Hid (w1.cell? ⟨w.heap.size,0,none⟩=some (.slice ba n bcap)):=by show _=_;rw[←hw1];simp[go_sem]
 have C1:Hid (w1.cell? ⟨w.heap.size,1,none⟩=some (.int .i64 vals)):=by show _=_;rw[←hw1];simp[go_sem]
 have E1:Hid (w1.heap[w.heap.size+1]? = some (.cells #[.nilIface] 105 (0,0))):=by
  show _=_
  rw[←hw1]
  have h:=World.alloc_heap_new (w.alloc (.cells #[.slice ba n bcap,.int .i64 vals] 26)) (.cells #[.nilIface] 105)
  rw[World.size_alloc] at h
  exact h
 have B1:Hid (Below w.heap.size w w1):=by show Below _ _ _;rw[←hw1];repeat (first | exact Below.refl _ _ | apply Below.drew | refine Below.alloc ?_ (by simp <;> omega) _ | refine Below.setCell ?_ (by simp <;> omega) _)
 have F1:Hid (FnAt w1 (.agg #[.slice ba n bcap,.int .i64 vals]) F):=HF.out.later B1.out
 rw[hw1]
 clear hw1
 refine(impl_shapeOk _ F _ F1.out).mono ?_
 rintro e w2 ⟨t,rfl,ht,b2⟩
 have B2:Hid (Below w1.heap.size w1 w2):=b2
 have c0:=Bel.keeps b2 C0.out
 have c1:=Bel.keeps b2 C1.out
 clear b2
 by_cases hS:FnShape F
 ·have HS:Hid (FnShape F):=hS
  have et:=tells_yes ht hS
  subst et
  clear ht hS
  go_wp2_with fail
  rename_i K hK
  have TAIL:∀(LB mb:Nat) (w5:World),Below w.heap.size w w5→ErrAt w5 (w.heap.size+1) .nilIface→FnAt w5 (.agg #[.slice ba n bcap,.int .i64 vals]) F→LookAt w5 LB (.slice ba n bcap) vals (fun b a=>domB F a b) mb→MadeMap w5 mb []→w.heap.size+2≤mb→w.heap.size+2≤w5.heap.size→K { tmps := #[.agg #[.slice ba n bcap,.int .i64 vals],.pointer (some ⟨w.heap.size,0,none⟩),.pointer (some ⟨w.heap.size+1,0,none⟩),.pointer (some ⟨LB,0,none⟩),.func (Fn.func 102) #[] #[.pointer (some ⟨w.heap.size+1,0,none⟩)],.agg #[.slice ba n bcap,.int .i64 vals],.bool true,.bool false,undef,undef,undef,.agg #[.slice ba n bcap,.int .i64 vals],.agg #[.slice ba n bcap,.int .i64 vals],tabV (fun b a=>domB F a b),.map (some mb),.agg (lookC (.slice ba n bcap) vals (fun b a=>domB F a b) mb).toArray,.pointer (some ⟨LB,0,none⟩),undef,undef,undef,undef,undef,undef,undef,undef,undef,undef,undef,undef],defers := [{ target:=Target.fn (Fn.func 102) #[.pointer (some ⟨w.heap.size+1,0,none⟩)],args := #[] }] } w5:=by
   intro LB mb w5 hb he hf hl hm hge hsz
   have B5:Hid (Below w.heap.size w w5):=hb
   have E5:Hid (ErrAt w5 (w.heap.size+1) .nilIface):=he
   have F5:Hid (FnAt w5 (.agg #[.slice ba n bcap,.int .i64 vals]) F):=hf
   have L5:Hid (LookAt w5 LB (.slice ba n bcap) vals (fun b a=>domB F a b) mb):=hl
   have M5:Hid (MadeMap w5 mb []):=hm
   obtain⟨es0,ck0,hm0⟩:=hm.isMap
   have hne:LB≠mb:=fun e=>by
    subst e
    rw[show w5.heap[LB]? = _ from hl] at hm0
    cases hm0
   have hmlt:mb<w5.heap.size:=(Array.getElem?_eq_some_iff.1 hm0).1
   obtain⟨EB,hEB⟩:∃x,w.heap.size+1=x:=⟨_,rfl⟩
   have hEB2:EB=w.heap.size+1:=hEB.symm
   have HEB:Hid (EB=w.heap.size+1):=hEB2
   rw[hEB] at E5 ⊢
   clear hb he hf hl hm hm0 hEB hEB2 c0 c1
   refine hK _ _ ?_
   clear hK
   go_wp2_with fail
   refine(copies_any F _ n bcap vals (fun b a=>domB F a b) LB mb _ (F5.out) HN.out HS.out (L5.out)).mono ?_
   rintro e w6 ⟨hh,bb⟩
   have B6:Hid (Below w5.heap.size w5 w6):=bb
   clear bb
   by_cases hX:CopyIn F
   ·obtain⟨b9,p9,rfl⟩:=step_no hh hX
    have ec:checkOf F=1:=check_1 (.inr hX)
    exact leave_thrown EB 1 b9 p9 .nilIface _ (E5.out.keep B6.out) _ rfl (fun w' b'=>⟨.inr ⟨by rw[ec];decide,b9,p9,by rw[ec]⟩,(Bel.after B5.out B6.out).trans (b'.mono (by have:=HEB.out;omega))⟩)
   ·obtain⟨rv6,rfl⟩:=step_yes hh hX
    have H1:Hid (¬(¬FnShape F∨CopyIn F)):=fun h=>h.elim (fun h=>h HS.out) hX
    clear hh hX
    go_wp2_with fail
    refine(dead_any F _ n bcap vals (fun b a=>domB F a b) LB mb _ HN.out HS.out (dom_own F) (L5.out.keep B6.out)).mono ?_
    rintro e w7 ⟨hh,bb⟩
    have B7:Hid (Below w5.heap.size w5 w7):=Bel.after B6.out bb
    clear bb
    by_cases hX:¬AllReached F
    ·obtain⟨b9,p9,rfl⟩:=step_no hh hX
     have ec:checkOf F=2:=check_2 H1.out hX
     exact leave_thrown EB 2 b9 p9 .nilIface _ (E5.out.keep B7.out) _ rfl (fun w' b'=>⟨.inr ⟨by rw[ec];decide,b9,p9,by rw[ec]⟩,(Bel.after B5.out B7.out).trans (b'.mono (by have:=HEB.out;omega))⟩)
    ·obtain⟨rv7,rfl⟩:=step_yes hh hX
     have H2:Hid (AllReached F):=Classical.not_not.1 hX
     clear hh hX
     go_wp2_with fail
     refine(entry_any F _ n bcap vals (fun b a=>domB F a b) LB mb _ (F5.out.later B7.out) HN.out HS.out (L5.out.keep B7.out)).mono ?_
     rintro e w8 ⟨hh,bb⟩
     have B8:Hid (Below w5.heap.size w5 w8):=Bel.after B7.out bb
     clear bb
     by_cases hX:EntryBad F
     ·obtain⟨b9,p9,rfl⟩:=step_no hh hX
      have ec:checkOf F=3:=check_3 H1.out H2.out hX
      exact leave_thrown EB 3 b9 p9 .nilIface _ (E5.out.keep B8.out) _ rfl (fun w' b'=>⟨.inr ⟨by rw[ec];decide,b9,p9,by rw[ec]⟩,(Bel.after B5.out B8.out).trans (b'.mono (by have:=HEB.out;omega))⟩)
     ·obtain⟨rv8,rfl⟩:=step_yes hh hX
      have H3:Hid (¬EntryBad F):=hX
      clear hh hX
      go_wp2_with fail
      refine(phis_any F _ n bcap vals (fun b a=>domB F a b) LB mb _ (F5.out.later B8.out) HN.out HS.out (L5.out.keep B8.out)).mono ?_
      rintro e w9 ⟨hh,bb⟩
      have B9:Hid (Below w5.heap.size w5 w9):=Bel.after B8.out bb
      clear bb
      by_cases hX:¬ArmsAll F
      ·obtain⟨b9,p9,rfl⟩:=step_no hh hX
       have ec:checkOf F=4:=check_4 H1.out H2.out H3.out hX
       exact leave_thrown EB 4 b9 p9 .nilIface _ (E5.out.keep B9.out) _ rfl (fun w' b'=>⟨.inr ⟨by rw[ec];decide,b9,p9,by rw[ec]⟩,(Bel.after B5.out B9.out).trans (b'.mono (by have:=HEB.out;omega))⟩)
      ·obtain⟨rv9,rfl⟩:=step_yes hh hX
       have H4:Hid (ArmsAll F):=Classical.not_not.1 hX
       clear hh hX
       go_wp2_with fail
       refine(twice_any F _ n bcap vals (fun b a=>domB F a b) LB mb _ (F5.out.later B9.out) HN.out HS.out (makes_wf HS.out) (makes_few HS.out) (L5.out.keep B9.out) (M5.out.kept (B9.out.block _ hmlt))).mono ?_
       rintro e w10 ⟨hh,fr⟩
       have B10:Hid (Below (w.heap.size+2) w9 w10):=fr.below hge (by have:=B9.out.size;omega)
       have BW:Hid (Below w.heap.size w w10):=(Bel.after B5.out B9.out).trans (B10.out.mono (by omega))
       have E10:Hid (ErrAt w10 EB .nilIface):=(B10.out.block _ (by have:=HEB.out;omega)).trans (E5.out.keep B9.out)
       by_cases hX:MadeOnce F
       ·obtain⟨rv,mm⟩:=hh.elim (fun h=>h.2) (fun h=>absurd hX h.1)
        obtain⟨rv10,rfl⟩:=rv
        have H5:Hid (MadeOnce F):=hX
        have F10:Hid (FnAt w10 (.agg #[.slice ba n bcap,.int .i64 vals]) F):=fr.fn (M5.out.kept (B9.out.block _ hmlt)).isMap (F5.out.later B9.out)
        have LF:Hid (LookFull w10 F LB mb ba n bcap vals (fun b a=>domB F a b)):=⟨HN.out,HS.out,hX,rfl,fr.look (L5.out.keep B9.out) hne,mm,fun m hm=>by have h:=makes_at m hm;rw[HN.out] at h;exact h⟩
        clear hh hX fr mm
        go_wp2_with fail
        refine(taken_any F _ n bcap vals (fun b a=>domB F a b) LB mb _ F10.out LF.out (takes_wf HS.out)).mono ?_
        rintro e w11 ⟨hh,bb⟩
        have B11:Hid (Below w10.heap.size w10 w11):=bb
        have e11:=(E10.out.keep bb).cell
        have z11:=(E10.out.keep bb).free
        have E11:Hid (ErrAt w11 EB .nilIface):=E10.out.keep bb
        clear bb
        by_cases hX:¬TakenAll F
        ·obtain⟨b9,p9,rfl⟩:=step_no hh hX
         have ec:checkOf F=6:=check_6 H1.out H2.out H3.out H4.out H5.out hX
         exact leave_thrown EB 6 b9 p9 .nilIface _ (E11.out) _ rfl (fun w' b'=>⟨.inr ⟨by rw[ec];decide,b9,p9,by rw[ec]⟩,(Bel.after BW.out B11.out).trans (b'.mono (by have:=HEB.out;omega))⟩)
        ·obtain⟨rv11,rfl⟩:=step_yes hh hX
         have ec:checkOf F=0:=check_0 H1.out H2.out H3.out H4.out H5.out (Classical.not_not.1 hX)
         have HEC:Hid (checkOf F=0):=ec
         clear hh hX ec
         go_wp2_with fail
         exact leave_idle EB .nilIface _ (E11.out.set .nilIface) _ rfl (fun w' b'=>⟨.inl ⟨HEC.out,rfl⟩,((Bel.after BW.out B11.out).setCell (p:=⟨EB,0,none⟩) (by have:=HEB.out;show _≤EB;omega) .nilIface).trans (b'.mono (by have:=BW.out.size;have:=B11.out.size;simp;omega))⟩)
       ·obtain⟨b9,p9,rfl⟩:=hh.elim (fun h=>absurd h.1 hX) (fun h=>h.2)
        have ec:checkOf F=5:=check_5 H1.out H2.out H3.out H4.out hX
        exact leave_thrown EB 5 b9 p9 .nilIface _ E10.out _ rfl (fun w' b'=>⟨.inr ⟨by rw[ec];decide,b9,p9,by rw[ec]⟩,BW.out.trans (b'.mono (by have:=HEB.out;omega))⟩)
  refine wp_noThrow (wp_region_held_drew (S:=fun w'=>w'.cell? ⟨w.heap.size,0,none⟩=some (.slice ba n bcap)∧w'.cell? ⟨w.heap.size,1,none⟩=some (.int .i64 vals)) (by kernel_rfl) ⟨c0,c1⟩ (fun hHeld=>?_))
  refine wpAnyH_take (i:=0) (oi:=⟨some 11,.load 26 (.tmp 1),26,"l05_check.go:72",#[],none⟩) (v := ?_) rfl (by kernel_rfl) (by kernel_rfl) (by kernel_rfl) (fun _ _ _ h=>h) (Or.inl ⟨by rfl,?_⟩) (by assumption) ?_
  rotate_left
  ·intro w hSw
   (try dsimp only at hSw)
   go_simp
   (try with_reducible rfl)
  try simp only[Act.put,List.setIfInBounds_toArray,List.set_cons_zero,List.set_cons_succ]
  refine wpAnyH_take (i:=1) (oi:=⟨some 12,.load 26 (.tmp 1),26,"l05_check.go:72",#[],none⟩) (v := ?_) rfl (by kernel_rfl) (by kernel_rfl) (by kernel_rfl) (fun _ _ _ h=>h) (Or.inl ⟨by rfl,?_⟩) (by assumption) ?_
  rotate_left
  ·intro w hSw
   (try dsimp only at hSw)
   go_simp
   (try with_reducible rfl)
  try simp only[Act.put,List.setIfInBounds_toArray,List.set_cons_zero,List.set_cons_succ]
  refine ckAnyH_twoK (i:=2) (i2:=3) (o:=⟨some 13,.call ⟨.value (.func 49),#[.tmp 12],#[26]⟩,95,"l05_check.go:72",#[⟨1,.data⟩],none⟩) (o2:=⟨some 14,.makeMap 170 none,170,"l05_check.go:72",#[],none⟩) rfl rfl rfl rfl (by kernel_rfl) (fun K9 hK9=>?_) (fun K9 hK9=>?_)
  ·refine wp_call_of (f:=49) (args := #[.agg #[.slice ba n bcap,.int .i64 vals]]) (by go_simp) (domsOf_any _ F _ (F1.out.later B2.out.drew) HS.out) ?_
   rintro e w4 ⟨rfl,b4⟩
   have B4:Hid (Below w2.heap.size w2 w4):=Bel.after ((Below.refl _ _).drew) b4
   refine⟨_,rfl,?_⟩
   refine hK9 _ _ ⟨⟨Bel.keeps B4.out c0,Bel.keeps B4.out c1⟩,?_⟩
   try simp only[Act.put,List.setIfInBounds_toArray,List.set_cons_zero,List.set_cons_succ]
   clear hK9 b4
   refine ckAnyH_oneK (i:=3) (o:=⟨some 14,.makeMap 170 none,170,"l05_check.go:72",#[],none⟩) rfl rfl (by kernel_rfl) (fun K9 hK9=>?_)
   refine wp_value (v := .map (some w4.heap.size)) (w':=w4.alloc (.map #[] 0)) rfl (hK9 _ _ ⟨⟨Bel.keeps (Bel.alloc _ _) (Bel.keeps B4.out c0),Bel.keeps (Bel.alloc _ _) (Bel.keeps B4.out c1)⟩,?_⟩)
   try simp only[Act.put,List.setIfInBounds_toArray,List.set_cons_zero,List.set_cons_succ]
   clear hK9
   have sA:∀o:Obj,((w4.alloc (.map #[] 0)).alloc o).cell? ⟨w.heap.size,0,none⟩=some (.slice ba n bcap)∧((w4.alloc (.map #[] 0)).alloc o).cell? ⟨w.heap.size,1,none⟩=some (.int .i64 vals):=fun o=>⟨Bel.keeps (Bel.alloc _ _) (Bel.keeps (Bel.alloc _ _) (Bel.keeps B4.out c0)),Bel.keeps (Bel.alloc _ _) (Bel.keeps (Bel.alloc _ _) (Bel.keeps B4.out c1))⟩
   refine ckAnyH_oneK (i:=4) (o:=⟨some 15,.build 172 #[(0,.tmp 11),(1,.tmp 13),(2,.tmp 14)],172,"l05_check.go:72",#[⟨0,.data⟩,⟨2,.data⟩,⟨3,.data⟩],none⟩) rfl rfl (by kernel_rfl) (fun K9 hK9=>?_)
   refine wp_value (v := .agg (lookC (.slice ba n bcap) vals (fun b a=>domB F a b) w4.heap.size).toArray) (w':=w4.alloc (.map #[] 0)) (exec_build rfl (by simp only[List.map_toArray,List.map_cons,List.map_nil];exact run_build_look (.slice ba n bcap) vals (fun b a=>domB F a b) w4.heap.size _)) (hK9 _ _ ⟨⟨Bel.keeps (Bel.alloc _ _) (Bel.keeps B4.out c0),Bel.keeps (Bel.alloc _ _) (Bel.keeps B4.out c1)⟩,?_⟩)
   try simp only[Act.put,List.setIfInBounds_toArray,List.set_cons_zero,List.set_cons_succ]
   clear hK9
   refine ckAnyH_oneK (i:=5) (o:=⟨some 16,.box 172 (.tmp 15),169,"l05_check.go:72",#[⟨4,.data⟩],none⟩) rfl rfl (by kernel_rfl) (fun K9 hK9=>?_)
   refine wp_value (v := .pointer (some ⟨w4.heap.size+1,0,none⟩)) (w':=(w4.alloc (.map #[] 0)).alloc (.cells (lookC (.slice ba n bcap) vals (fun b a=>domB F a b) w4.heap.size).toArray 172)) (exec_box rfl (by rw[show w4.heap.size+1=(w4.alloc (.map #[] 0)).heap.size by simp];exact run_box_look (.slice ba n bcap) vals (fun b a=>domB F a b) w4.heap.size _)) (hK9 _ _ ⟨sA _,?_⟩)
   try simp only[Act.put,List.setIfInBounds_toArray,List.set_cons_zero,List.set_cons_succ]
   clear hK9
   refine ckAnyH_oneK (i:=6) (o:=⟨some 3,.assign (.tmp 16),169,"l05_check.go:72",#[⟨5,.data⟩,⟨2,.chain⟩,⟨0,.phase⟩,⟨1,.phase⟩,⟨2,.phase⟩,⟨3,.phase⟩,⟨4,.phase⟩,⟨5,.phase⟩],none⟩) rfl rfl (by kernel_rfl) (fun K9 hK9=>?_)
   refine wp_value (v := .pointer (some ⟨w4.heap.size+1,0,none⟩)) (w':=(w4.alloc (.map #[] 0)).alloc (.cells (lookC (.slice ba n bcap) vals (fun b a=>domB F a b) w4.heap.size).toArray 172)) rfl (hK9 _ _ ⟨sA _,?_⟩)
   try simp only[Act.put,List.setIfInBounds_toArray,List.set_cons_zero,List.set_cons_succ]
   clear hK9 sA
   refine wpAnyH_done (by kernel_rfl) ?_ _
   have BL:Below w4.heap.size w4 ((w4.alloc (.map #[] 0)).alloc (.cells (lookC (.slice ba n bcap) vals (fun b a=>domB F a b) w4.heap.size).toArray 172)):=((Below.refl _ _).alloc (Nat.le_refl _) _).alloc (by simp) _
   have hs4:w.heap.size+2≤w4.heap.size:=by have:=B2.out.size;have:=B4.out.size;omega
   have B14:Below w1.heap.size w1 w4:=Bel.after B2.out B4.out
   exact TAIL (w4.heap.size+1) w4.heap.size _ (Bel.after (Bel.after B1.out B14) BL) ((ErrAt.keep E1.out B14).keep BL) ((F1.out.later B14).later BL) (by have h:=World.alloc_heap_new (w4.alloc (.map #[] 0)) (.cells (lookC (.slice ba n bcap) vals (fun b a=>domB F a b) w4.heap.size).toArray 172);rw[World.size_alloc] at h;exact h) ⟨.map [],(World.ownsMap_made w4 Tryz.prog 3 spotElem).alloc _,fun x=>by simp[Maps.has],fun _ m hm=>by cases hm⟩ hs4 (by have:=BL.size;omega)
  ·obtain⟨wm,hwm⟩:∃W,w2.drew.alloc (.map #[] 0)=W:=⟨_,rfl⟩
   have BM:Hid (Below w2.heap.size w2 wm):=by show Below _ _ _;rw[←hwm];exact((Below.refl _ _).drew).alloc (Nat.le_refl _) _
   have MM:Hid (MadeMap wm w2.heap.size []):=by show MadeMap _ _ _;rw[←hwm];exact⟨.map [],World.ownsMap_made w2.drew Tryz.prog 3 spotElem,fun x=>by simp[Maps.has],fun _ m hm=>by cases hm⟩
   have hml:w2.heap.size<wm.heap.size:=by rw[←hwm];simp
   refine wp_value (v := .map (some w2.heap.size)) (w':=wm) (by rw[←hwm];rfl) (hK9 _ _ ⟨⟨Bel.keeps BM.out c0,Bel.keeps BM.out c1⟩,?_⟩)
   try simp only[Act.put,List.setIfInBounds_toArray,List.set_cons_zero,List.set_cons_succ]
   clear hK9 hwm
   refine ckAnyH_oneK (i:=2) (o:=⟨some 13,.call ⟨.value (.func 49),#[.tmp 12],#[26]⟩,95,"l05_check.go:72",#[⟨1,.data⟩],none⟩) rfl rfl (by kernel_rfl) (fun K9 hK9=>?_)
   refine wp_call_of (f:=49) (args := #[.agg #[.slice ba n bcap,.int .i64 vals]]) (by go_simp) (domsOf_any _ F _ (F1.out.later (Bel.after B2.out BM.out)) HS.out) ?_
   rintro e w4 ⟨rfl,b4⟩
   have B4:Hid (Below wm.heap.size wm w4):=b4
   have B24:Hid (Below w2.heap.size w2 w4):=Bel.after BM.out b4
   refine⟨_,rfl,?_⟩
   refine hK9 _ _ ⟨⟨Bel.keeps B24.out c0,Bel.keeps B24.out c1⟩,?_⟩
   try simp only[Act.put,List.setIfInBounds_toArray,List.set_cons_zero,List.set_cons_succ]
   clear hK9 b4
   refine ckAnyH_oneK (i:=4) (o:=⟨some 15,.build 172 #[(0,.tmp 11),(1,.tmp 13),(2,.tmp 14)],172,"l05_check.go:72",#[⟨0,.data⟩,⟨2,.data⟩,⟨3,.data⟩],none⟩) rfl rfl (by kernel_rfl) (fun K9 hK9=>?_)
   refine wp_value (v := .agg (lookC (.slice ba n bcap) vals (fun b a=>domB F a b) w2.heap.size).toArray) (w':=w4) (exec_build rfl (by simp only[List.map_toArray,List.map_cons,List.map_nil];exact run_build_look (.slice ba n bcap) vals (fun b a=>domB F a b) w2.heap.size _)) (hK9 _ _ ⟨⟨Bel.keeps B24.out c0,Bel.keeps B24.out c1⟩,?_⟩)
   try simp only[Act.put,List.setIfInBounds_toArray,List.set_cons_zero,List.set_cons_succ]
   clear hK9
   refine ckAnyH_oneK (i:=5) (o:=⟨some 16,.box 172 (.tmp 15),169,"l05_check.go:72",#[⟨4,.data⟩],none⟩) rfl rfl (by kernel_rfl) (fun K9 hK9=>?_)
   refine wp_value (v := .pointer (some ⟨w4.heap.size,0,none⟩)) (w':=w4.alloc (.cells (lookC (.slice ba n bcap) vals (fun b a=>domB F a b) w2.heap.size).toArray 172)) (exec_box rfl (run_box_look (.slice ba n bcap) vals (fun b a=>domB F a b) w2.heap.size _)) (hK9 _ _ ⟨⟨Bel.keeps (Bel.alloc _ _) (Bel.keeps B24.out c0),Bel.keeps (Bel.alloc _ _) (Bel.keeps B24.out c1)⟩,?_⟩)
   try simp only[Act.put,List.setIfInBounds_toArray,List.set_cons_zero,List.set_cons_succ]
   clear hK9
   refine ckAnyH_oneK (i:=6) (o:=⟨some 3,.assign (.tmp 16),169,"l05_check.go:72",#[⟨5,.data⟩,⟨2,.chain⟩,⟨0,.phase⟩,⟨1,.phase⟩,⟨2,.phase⟩,⟨3,.phase⟩,⟨4,.phase⟩,⟨5,.phase⟩],none⟩) rfl rfl (by kernel_rfl) (fun K9 hK9=>?_)
   refine wp_value (v := .pointer (some ⟨w4.heap.size,0,none⟩)) (w':=w4.alloc (.cells (lookC (.slice ba n bcap) vals (fun b a=>domB F a b) w2.heap.size).toArray 172)) rfl (hK9 _ _ ⟨⟨Bel.keeps (Bel.alloc _ _) (Bel.keeps B24.out c0),Bel.keeps (Bel.alloc _ _) (Bel.keeps B24.out c1)⟩,?_⟩)
   try simp only[Act.put,List.setIfInBounds_toArray,List.set_cons_zero,List.set_cons_succ]
   clear hK9
   refine wpAnyH_done (by kernel_rfl) ?_ _
   have BL:Below w4.heap.size w4 (w4.alloc (.cells (lookC (.slice ba n bcap) vals (fun b a=>domB F a b) w2.heap.size).toArray 172)):=(Below.refl _ _).alloc (Nat.le_refl _) _
   have hs2:w.heap.size+2≤w2.heap.size:=by have:=B2.out.size;omega
   have B14:Below w1.heap.size w1 w4:=Bel.after B2.out B24.out
   have hs4:=B4.out.size
   exact TAIL w4.heap.size w2.heap.size _ (Bel.after (Bel.after B1.out B14) BL) ((ErrAt.keep E1.out B14).keep BL) ((F1.out.later B14).later BL) (World.alloc_heap_new w4 _) (MM.out.kept ((BL.block _ (by omega)).trans (B4.out.block _ hml))) hs2 (by have:=BL.size;omega)
 ·have et:=tells_no ht hS
  subst et
  have HEC:Hid (checkOf F=1):=check_1 (.inl hS)
  have E2:Hid (ErrAt w2 (w.heap.size+1) .nilIface):=ErrAt.keep E1.out B2.out
  have e2:=E2.out.cell
  have z2:=E2.out.free
  have hs2:w.heap.size+2≤w2.heap.size:=by have:=B2.out.size;omega
  clear ht hS
  go_wp2_with fail
  exact leave_idle (w.heap.size+1) (mistakeV 1 (-1) (-2)) _ (E2.out.set (mistakeV 1 (-1) (-2))) _ rfl (fun w' b'=>⟨.inr ⟨by rw[HEC.out];decide,-1,-2,by rw[HEC.out]⟩,((Bel.after B1.out B2.out).setCell (p:=⟨w.heap.size+1,0,none⟩) (by show _≤w.heap.size+1;omega) (mistakeV 1 (-1) (-2))).trans (b'.mono (by simp;omega))⟩)
end Go.Proofs.YtfnilamkapabkaaGreatDoor
