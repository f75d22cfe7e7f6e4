/- errors.As at a mistake: nothing, and one. Check of the program: the first mistake of a program, as the document says it. The library's handle of the type error, as the row lists it: what a walk gets of it, and a world that has it. -/
import Derived.Test.YtfnilamkapabkaaGreatDoorProg
import Derived.WalkKit
import Derived.LaidEql
import Derived.Stop.Asserts
import Derived.RowKitTokens
import Derived.Below
import Derived.WalkMore
import Derived.Test.YtfnilamkapabkaaGreatDoorKCkD
import Derived.Test.YtfnilamkapabkaaGreatDoorRows
import Derived.ChangeSame
import Derived.ChangeVars
import Derived.JoinedOf
import Derived.RowKit
import Derived.LaidLaws
import Derived.LaidHandle
import Derived.Stop.Joined
namespace Go.Proofs.YtfnilamkapabkaaGreatDoor
open Go.ChangeShapes Go.WideShapes Go.ChangeAt Go.RowKit
set_option linter.unusedVariables false
open Go.RowKit Go.Extern.Stop Go.Stop Go.Extern
theorem as_nil (t:Value)(w:World) :
  Calls Tryz.prog 52 #[.nilIface,t] w fun e w'=>e = .returned (.bool false)∧w'=w:=by
 go_enter Tryz.func52,Tryz.ntmps52
 go_wp2
 go_ret
 exact⟨rfl,rfl⟩
theorem rl_valueOfP (t:Addr)(w:World):(ReflectliteValue.unpack (.iface 107 (.pointer (some t)))).run Tryz.prog w
  = .ok (.agg #[.pointer (some ⟨1,107,none⟩),.pointer (some ⟨w.heap.size,0,none⟩),.int .u64 150]) (w.alloc (.cells #[.pointer (some t)] 107)):=by kernel_rfl
theorem rl_typeP (a:Addr)(w:World):(ReflectliteValue.methodAny (ReflectliteValue.valueError "reflectlite.Value.Type" 0) (fun t _ _ _=>ReflectliteType.toType t) #[.agg #[.pointer (some ⟨1,107,none⟩),.pointer (some a),.int .u64 150]]).run Tryz.prog w
  = .ok (.iface 233 (.agg #[.pointer (some ⟨1,107,none⟩)])) w:=by kernel_rfl
theorem rl_methodKind (h:Value)(w:World):(Go.method 438 233 (.agg #[h]) "Kind").run Tryz.prog w = .ok (251,h) w:=by kernel_rfl
theorem rl_kindP (w:World):((ReflectliteType.abiMethod fun t=>(fun a:Nat=>Value.int IntKind.u8 (a:Int)) <$> Rtype.kind t) #[.pointer (some ⟨1,107,none⟩)]).run Tryz.prog w = .ok (.int .u8 22) w:=by kernel_rfl
theorem rl_kindM (w:World):((ReflectliteType.abiMethod fun t=>(fun a:Nat=>Value.int IntKind.u8 (a:Int)) <$> Rtype.kind t) #[.pointer (some ⟨1,102,none⟩)]).run Tryz.prog w = .ok (.int .u8 25) w:=by kernel_rfl
theorem rlm (z:Sem Value)(f:TypeId→Addr→Nat→Nat→Sem Value)(v:Value) :
  ReflectliteValue.method z f #[v]=(do match ←ReflectliteValue.parts v with | none=>z | some (t,a,fl)=>f t a fl (fl % 32)):=rfl
theorem rl_partsP (a:Addr)(w:World):(ReflectliteValue.parts (.agg #[.pointer (some ⟨1,107,none⟩),.pointer (some a),.int .u64 150])).run Tryz.prog w = .ok (some (107,a,150)) w:=by kernel_rfl
theorem rl_isNil (a p:Addr)(W:World)(ha:W.cell? a=some (.pointer (some p))) :
  (ReflectliteValue.method (ReflectliteValue.valueError "reflectlite.Value.IsNil" 0) ReflectliteValue.isNil #[.agg #[.pointer (some ⟨1,107,none⟩),.pointer (some a),.int .u64 150]]).run Tryz.prog W = .ok (.bool false) W:=by
 rw[rlm]
 simp only[Sem.run_bind,rl_partsP,Result.andThen]
 simp[ReflectliteValue.isNil,loadVar,isAgg,underlying,Tryz.underlying107,ha,Result.andThen]
theorem rl_methodElem (h:Value)(w:World):(Go.method 438 233 (.agg #[h]) "Elem").run Tryz.prog w = .ok (267,.agg #[h]) w:=by kernel_rfl
theorem rl_methodImplements (h:Value)(w:World):(Go.method 438 233 (.agg #[h]) "Implements").run Tryz.prog w = .ok (268,.agg #[h]) w:=by kernel_rfl
theorem rl_methodAssignableTo (h:Value)(w:World):(Go.method 438 233 (.agg #[h]) "AssignableTo").run Tryz.prog w = .ok (265,.agg #[h]) w:=by kernel_rfl
theorem rl_elemP (w:World):(ReflectliteType.method ReflectliteType.elem #[.agg #[.pointer (some ⟨1,107,none⟩)]]).run Tryz.prog w = .ok (.iface 233 (.agg #[.pointer (some ⟨1,102,none⟩)])) w:=by kernel_rfl
theorem rl_implements (w:World):(ReflectliteType.relation "Implements" ReflectliteType.implements_ #[.agg #[.pointer (some ⟨1,102,none⟩)],.iface 233 (.agg #[.pointer (some ⟨1,105,none⟩)])]).run Tryz.prog w = .ok (.bool true) w:=by kernel_rfl
theorem rl_typeOf (v:Value)(w:World):(ReflectliteType.typeOf #[.iface 102 v]).run Tryz.prog w = .ok (.iface 233 (.agg #[.pointer (some ⟨1,102,none⟩)])) w:=by kernel_rfl
theorem rl_assignable (w:World):(ReflectliteType.relation "AssignableTo" ReflectliteType.assignableTo #[.agg #[.pointer (some ⟨1,102,none⟩)],.iface 233 (.agg #[.pointer (some ⟨1,102,none⟩)])]).run Tryz.prog w = .ok (.bool true) w:=by kernel_rfl
theorem rl_valueOfM (c b p:Int)(w:World):(ReflectliteValue.unpack (.iface 102 (.agg #[.int .i64 c,.int .i64 b,.int .i64 p]))).run Tryz.prog w
  = .ok (.agg #[.pointer (some ⟨1,102,none⟩),.pointer (some ⟨w.heap.size,0,none⟩),.int .u64 153]) (w.alloc (.cells #[.int .i64 c,.int .i64 b,.int .i64 p] 102)):=by kernel_rfl
theorem rl_elemOf (w:World):(Rtype.elem? 107).run Tryz.prog w = .ok (some 102) w:=by kernel_rfl
theorem rl_mk (p:Addr)(w:World):(ReflectliteValue.mk 102 p ReflectliteValue.flagAddr).run Tryz.prog w = .ok (.agg #[.pointer (some ⟨1,102,none⟩),.pointer (some p),.int .u64 409]) w:=by kernel_rfl
theorem rl_elemV (a p:Addr)(W:World)(ha:W.cell? a=some (.pointer (some p))) :
  (ReflectliteValue.method (ReflectliteValue.valueError "reflectlite.Value.Elem" 0) ReflectliteValue.elem #[.agg #[.pointer (some ⟨1,107,none⟩),.pointer (some a),.int .u64 150]]).run Tryz.prog W
   = .ok (.agg #[.pointer (some ⟨1,102,none⟩),.pointer (some p),.int .u64 409]) W:=by
 rw[rlm]
 simp only[Sem.run_bind,rl_partsP,Result.andThen]
 simp[ReflectliteValue.elem,loadVar,isAgg,underlying,Tryz.underlying107,ha,Result.andThen,rl_elemOf,rl_mk]
theorem rl_partsMa (a:Addr)(w:World):(ReflectliteValue.parts (.agg #[.pointer (some ⟨1,102,none⟩),.pointer (some a),.int .u64 409])).run Tryz.prog w = .ok (some (102,a,409)) w:=by kernel_rfl
theorem rl_partsM (a:Addr)(w:World):(ReflectliteValue.parts (.agg #[.pointer (some ⟨1,102,none⟩),.pointer (some a),.int .u64 153])).run Tryz.prog w = .ok (some (102,a,153)) w:=by kernel_rfl
theorem rl_direct (w:World):(Rtype.directlyAssignable 102 102).run Tryz.prog w = .ok true w:=by kernel_rfl
theorem rls (v x:Value):ReflectliteValue.set #[v,x]=(do
  let (some (dst,a,fl),some (src,b,_)):=(←ReflectliteValue.parts v,←ReflectliteValue.parts x)
   | unsupported (.noEntry "extern/(internal/reflectlite.Value).Set.zeroValue")
  if fl / ReflectliteValue.flagAddr % 2 == 0 then unsupported (.noEntry "extern/(internal/reflectlite.Value).Set.unaddressable")
  let val ←loadVar src b
  if ←Rtype.directlyAssignable dst src then storeVar dst a val
  else if ←Rtype.implements dst src then
   if (←Rtype.kind src) == 20 then
    match val with
    | .nilIface=>unsupported (.noEntry "extern/reflectlite: a nil value of one interface type handed on as a value of another")
    | _=>storeVar dst a val
   else storeVar dst a (.iface src val)
  else panicString ("reflectlite.Set: value of type " ++ (←Rtype.spelt src) ++ " is not assignable to type " ++ (←Rtype.spelt dst))
  pure (.tuple #[])):=rfl
theorem rl_set (tb bb:Nat)(c b p:Int)(o0 o1 o2:Value)(W:World)(hb0:W.cell? ⟨bb,0,none⟩=some (.int .i64 c))(hb1:W.cell? ⟨bb,1,none⟩=some (.int .i64 b))(hb2:W.cell? ⟨bb,2,none⟩=some (.int .i64 p))(h0:W.cell? ⟨tb,0,none⟩=some o0)(h1:W.cell? ⟨tb,1,none⟩=some o1)(h2:W.cell? ⟨tb,2,none⟩=some o2)(f0:W.frozen? ⟨tb,0,none⟩=false)(f1:W.frozen? ⟨tb,1,none⟩=false)(f2:W.frozen? ⟨tb,2,none⟩=false) :
  (ReflectliteValue.set #[.agg #[.pointer (some ⟨1,102,none⟩),.pointer (some ⟨tb,0,none⟩),.int .u64 409],.agg #[.pointer (some ⟨1,102,none⟩),.pointer (some ⟨bb,0,none⟩),.int .u64 153]]).run Tryz.prog W
   = .ok (.tuple #[]) (((W.setCell ⟨tb,0,none⟩ (.int .i64 c)).setCell ⟨tb,1,none⟩ (.int .i64 b)).setCell ⟨tb,2,none⟩ (.int .i64 p)):=by
 rw[rls]
 simp only[Sem.run_bind,rl_partsMa,rl_partsM,Result.andThen]
 simp[ReflectliteValue.flagAddr,rl_direct,go_sem,Tryz.isAgg102,Tryz.sizeOf102,hb0,hb1,hb2,h0,h1,h2,f0,f1,f2]
set_option maxRecDepth 100000 in
set_option maxHeartbeats 4000000 in
theorem as_hit (tb:Nat)(c b p:Int)(o0 o1 o2:Value)(w:World)(hg:w.cell? ⟨0,0,none⟩=some (.iface 233 (.agg #[.pointer (some ⟨1,105,none⟩)])))
  (t0:w.cell? ⟨tb,0,none⟩=some o0) (t1:w.cell? ⟨tb,1,none⟩=some o1) (t2:w.cell? ⟨tb,2,none⟩=some o2) (f0:w.frozen? ⟨tb,0,none⟩=false) (f1:w.frozen? ⟨tb,1,none⟩=false) (f2:w.frozen? ⟨tb,2,none⟩=false) :
  Calls Tryz.prog 52 #[.iface 102 (.agg #[.int .i64 c,.int .i64 b,.int .i64 p]),.iface 107 (.pointer (some ⟨tb,0,none⟩))] w fun ev w'=>ev = .returned (.bool true)∧w'.cell? ⟨tb,0,none⟩=some (.int .i64 c)∧Below tb w w':=by
 have h6:=@run_callFunc_extern Tryz.prog 98 _ (fun args=>ReflectliteValue.unpack (args.getD 0 (.tuple #[]))) Tryz.func98 (by kernel_rfl) (by kernel_rfl) (by kernel_rfl) (by kernel_rfl)
 have h7:=@run_callFunc_extern Tryz.prog 99 _ (ReflectliteValue.methodAny (ReflectliteValue.valueError "reflectlite.Value.Type" 0) (fun t _ _ _=>ReflectliteType.toType t)) Tryz.func99 (by kernel_rfl) (by kernel_rfl) (by kernel_rfl) (by kernel_rfl)
 have h8:=@run_callFunc_extern Tryz.prog 100 _ (ReflectliteValue.method (ReflectliteValue.valueError "reflectlite.Value.IsNil" 0) ReflectliteValue.isNil) Tryz.func100 (by kernel_rfl) (by kernel_rfl) (by kernel_rfl) (by kernel_rfl)
 have h27:=@run_callFunc_extern Tryz.prog 251 _ (ReflectliteType.abiMethod fun t=>do pure (.int .u8 (←Rtype.kind t))) Tryz.func251 (by kernel_rfl) (by kernel_rfl) (by kernel_rfl) (by kernel_rfl)
 have h37:=@run_callFunc_extern Tryz.prog 267 _ (ReflectliteType.method ReflectliteType.elem) Tryz.func267 (by kernel_rfl) (by kernel_rfl) (by kernel_rfl) (by kernel_rfl)
 have h38:=@run_callFunc_extern Tryz.prog 268 _ (ReflectliteType.relation "Implements" ReflectliteType.implements_) Tryz.func268 (by kernel_rfl) (by kernel_rfl) (by kernel_rfl) (by kernel_rfl)
 have h10:=@run_callFunc_extern Tryz.prog 157 _ ReflectliteType.typeOf Tryz.func157 (by kernel_rfl) (by kernel_rfl) (by kernel_rfl) (by kernel_rfl)
 have h35:=@run_callFunc_extern Tryz.prog 265 _ (ReflectliteType.relation "AssignableTo" ReflectliteType.assignableTo) Tryz.func265 (by kernel_rfl) (by kernel_rfl) (by kernel_rfl) (by kernel_rfl)
 have h11:=@run_callFunc_extern Tryz.prog 158 _ (ReflectliteValue.method (ReflectliteValue.valueError "reflectlite.Value.Elem" 0) ReflectliteValue.elem) Tryz.func158 (by kernel_rfl) (by kernel_rfl) (by kernel_rfl) (by kernel_rfl)
 have h12:=@run_callFunc_extern Tryz.prog 159 _ ReflectliteValue.set Tryz.func159 (by kernel_rfl) (by kernel_rfl) (by kernel_rfl) (by kernel_rfl)
 have tO:=rl_typeOf
 have mA:=rl_methodAssignableTo
 have a25:=rl_assignable
 have v25:=rl_valueOfM
 have g6:=rl_valueOfP
 have g7:=rl_typeP
 have mK:=rl_methodKind
 have mE:=rl_methodElem
 have mI:=rl_methodImplements
 have k27:=rl_kindP
 have k25:=rl_kindM
 have e27:=rl_elemP
 have i25:=rl_implements
 have htl:tb<w.heap.size:=World.block_lt_of_cell? w _ t0
 have hgl:0<w.heap.size:=World.block_lt_of_cell? w _ hg
 have n8:=rl_isNil ⟨w.heap.size,0,none⟩ ⟨tb,0,none⟩ ((w.alloc (.cells #[.pointer (some ⟨tb,0,none⟩)] 107)).alloc (.cells #[.pointer (some ⟨1,107,none⟩),.pointer (some ⟨w.heap.size,0,none⟩),.int .u64 150] 159)) (by simp)
 have hg2:((w.alloc (.cells #[.pointer (some ⟨tb,0,none⟩)] 107)).alloc (.cells #[.pointer (some ⟨1,107,none⟩),.pointer (some ⟨w.heap.size,0,none⟩),.int .u64 150] 159)).cell? ⟨0,0,none⟩=some (.iface 233 (.agg #[.pointer (some ⟨1,105,none⟩)])):=by
  rw[World.cell?_alloc_lt _ _ ⟨0,0,none⟩ (by simp),World.cell?_alloc_lt _ _ ⟨0,0,none⟩ hgl];exact hg
 have el:=rl_elemV ⟨w.heap.size,0,none⟩ ⟨tb,0,none⟩ (((w.alloc (.cells #[.pointer (some ⟨tb,0,none⟩)] 107)).alloc (.cells #[.pointer (some ⟨1,107,none⟩),.pointer (some ⟨w.heap.size,0,none⟩),.int .u64 150] 159)).alloc (.cells #[.pointer (some ⟨1,107,none⟩),.pointer (some ⟨w.heap.size,0,none⟩),.int .u64 150] 159)) (by rw[World.cell?_alloc_lt _ _ ⟨w.heap.size,0,none⟩ (by simp;omega)];simp)
 have o4:∀k:Nat,((((w.alloc (.cells #[.pointer (some ⟨tb,0,none⟩)] 107)).alloc (.cells #[.pointer (some ⟨1,107,none⟩),.pointer (some ⟨w.heap.size,0,none⟩),.int .u64 150] 159)).alloc (.cells #[.pointer (some ⟨1,107,none⟩),.pointer (some ⟨w.heap.size,0,none⟩),.int .u64 150] 159)).alloc (.cells #[.int .i64 c,.int .i64 b,.int .i64 p] 102)).cell? ⟨tb,k,none⟩=w.cell? ⟨tb,k,none⟩:=fun k=>by
  rw[World.cell?_alloc_lt _ _ ⟨tb,k,none⟩ (by simp;omega),World.cell?_alloc_lt _ _ ⟨tb,k,none⟩ (by simp;omega),World.cell?_alloc_lt _ _ ⟨tb,k,none⟩ (by simp;omega),World.cell?_alloc_lt _ _ ⟨tb,k,none⟩ htl]
 have z4:∀k:Nat,((((w.alloc (.cells #[.pointer (some ⟨tb,0,none⟩)] 107)).alloc (.cells #[.pointer (some ⟨1,107,none⟩),.pointer (some ⟨w.heap.size,0,none⟩),.int .u64 150] 159)).alloc (.cells #[.pointer (some ⟨1,107,none⟩),.pointer (some ⟨w.heap.size,0,none⟩),.int .u64 150] 159)).alloc (.cells #[.int .i64 c,.int .i64 b,.int .i64 p] 102)).frozen? ⟨tb,k,none⟩=w.frozen? ⟨tb,k,none⟩:=fun k=>by
  rw[World.frozen?_alloc_old _ _ ⟨tb,k,none⟩ (by simp;omega),World.frozen?_alloc_old _ _ ⟨tb,k,none⟩ (by simp;omega),World.frozen?_alloc_old _ _ ⟨tb,k,none⟩ (by simp;omega),World.frozen?_alloc_old _ _ ⟨tb,k,none⟩ (Nat.ne_of_lt htl)]
 have st:=rl_set tb (w.heap.size+1+1+1) c b p o0 o1 o2 ((((w.alloc (.cells #[.pointer (some ⟨tb,0,none⟩)] 107)).alloc (.cells #[.pointer (some ⟨1,107,none⟩),.pointer (some ⟨w.heap.size,0,none⟩),.int .u64 150] 159)).alloc (.cells #[.pointer (some ⟨1,107,none⟩),.pointer (some ⟨w.heap.size,0,none⟩),.int .u64 150] 159)).alloc (.cells #[.int .i64 c,.int .i64 b,.int .i64 p] 102)) (by rw[World.cell?_alloc_at _ _ _ _ (by simp)];rfl) (by rw[World.cell?_alloc_at _ _ _ _ (by simp)];rfl) (by rw[World.cell?_alloc_at _ _ _ _ (by simp)];rfl) ((o4 0).trans t0) ((o4 1).trans t1) ((o4 2).trans t2) ((z4 0).trans f0) ((z4 1).trans f1) ((z4 2).trans f2)
 have K0:((((w.alloc (.cells #[.pointer (some ⟨tb,0,none⟩)] 107)).alloc (.cells #[.pointer (some ⟨1,107,none⟩),.pointer (some ⟨w.heap.size,0,none⟩),.int .u64 150] 159)).alloc (.cells #[.pointer (some ⟨1,107,none⟩),.pointer (some ⟨w.heap.size,0,none⟩),.int .u64 150] 159)).alloc (.cells #[.int .i64 c,.int .i64 b,.int .i64 p] 102)).cell? ⟨tb,0,none⟩=some o0:=(o4 0).trans t0
 clear o4 z4 t0 t1 t2 f0 f1 f2 hg
 go_enter Tryz.func52,Tryz.ntmps52
 go_wp2
 refine wp_loop_rounds 1 ?_
 rw[rounds_succ]
 go_wp2
 go_ret
 refine⟨rfl,?_,?_⟩
 ·rw[World.cell?_setCell_other _ _ _ _ (by simp),World.cell?_setCell_other _ _ _ _ (by simp)]
  exact World.cell?_setCell_same _ _ _ K0
 ·repeat (first | exact Below.refl _ _ | refine Below.alloc ?_ (by first | omega | (simp <;> omega)) _ | refine Below.setCell ?_ (by first | omega | (simp <;> omega)) _)
def HandleAt (w:World):Prop:=w.cell? ⟨0,0,none⟩=some (.iface 233 (.agg #[.pointer (some ⟨1,105,none⟩)]))
theorem HandleAt.keep {w w':World}(h:HandleAt w)(hb:Below w.heap.size w w'):HandleAt w':=Bel.keeps hb h
set_option maxRecDepth 100000 in
set_option maxHeartbeats 8000000 in
theorem impl_check (v:Value)(F:FnD)(w:World)(hF:FnAt w v F)(hg:HandleAt w) :
  Calls Tryz.prog 17 #[v] w fun e w'=>e = .returned (.int .i64 (checkOf F))∧Below w.heap.size w w':=by
 have HF:Hid (FnAt w v F):=hF
 have HG:Hid (HandleAt w):=hg
 obtain⟨c,HC⟩:∃c,Hid (checkOf F=c):=⟨_,rfl⟩
 rw[HC.out]
 obtain⟨n,HN⟩:∃n,Hid (F.blocks.length=n):=⟨_,rfl⟩
 obtain⟨vals,HV⟩:∃x,Hid (F.values=x):=⟨_,rfl⟩
 obtain⟨ba,bcap,rfl⟩:=hF.out HN.out HV.out
 clear hF hg
 go_enter Tryz.func17,Tryz.ntmps17
 go_wp2_with fail
 obtain⟨w1,hw1⟩:∃W,(w.alloc (.cells #[.slice ba n bcap,.int .i64 vals] 26)).alloc (.cells #[.int .i64 0,.int .i64 0,.int .i64 0] 102)=W:=⟨_,rfl⟩
 have hs1:w1.heap.size=w.heap.size+2:=by rw[←hw1];simp
 have M1:Hid (w1.heap[w.heap.size+1]? = some (.cells #[.int .i64 0,.int .i64 0,.int .i64 0] 102 (0,0))):=by
  show _=_
  rw[←hw1]
  have h:=World.alloc_heap_new (w.alloc (.cells #[.slice ba n bcap,.int .i64 vals] 26)) (.cells #[.int .i64 0,.int .i64 0,.int .i64 0] 102)
  rw[World.size_alloc] at h
  exact h
 have B1:Hid (Below w.heap.size w w1):=by show Below _ _ _;rw[←hw1];repeat (first | exact Below.refl _ _ | apply Below.drew | refine Below.alloc ?_ (by simp <;> omega) _ | refine Below.setCell ?_ (by simp <;> omega) _)
 rw[hw1]
 clear hw1
 refine(mistakeOf_any _ F _ (HF.out.later B1.out)).mono ?_
 rw[HC.out]
 rintro e w2 ⟨hh,b2⟩
 have M2:w2.heap[w.heap.size+1]? = some (.cells #[.int .i64 0,.int .i64 0,.int .i64 0] 102 (0,0)):=(b2.block _ (by omega)).trans M1.out
 have B2:Hid (Below w.heap.size w w2):=Bel.after B1.out b2
 have G2:Hid (HandleAt w2):=HG.out.keep B2.out
 clear b2
 rcases hh with ⟨h0,rfl⟩ | ⟨h0,b9,p9,rfl⟩
 ·clear M2
  go_wp2_with fail
  refine(as_nil _ _).mono ?_
  rintro e w3 ⟨rfl,h3⟩
  rw[h3]
  clear h3
  go_wp2_with fail
  go_ret
  exact⟨by rw[h0];rfl,B2.out⟩
 ·have hm0:w2.cell? ⟨w.heap.size+1,0,none⟩=some (.int .i64 0):=by simp[World.cell?,M2]
  have hm1:w2.cell? ⟨w.heap.size+1,1,none⟩=some (.int .i64 0):=by simp[World.cell?,M2]
  have hm2:w2.cell? ⟨w.heap.size+1,2,none⟩=some (.int .i64 0):=by simp[World.cell?,M2]
  have f0:w2.frozen? ⟨w.heap.size+1,0,none⟩=false:=by simp[World.frozen?,M2]
  have f1:w2.frozen? ⟨w.heap.size+1,1,none⟩=false:=by simp[World.frozen?,M2]
  have f2:w2.frozen? ⟨w.heap.size+1,2,none⟩=false:=by simp[World.frozen?,M2]
  have HA:Hid (∀(c b p:Int),Calls Tryz.prog 52 #[mistakeV c b p,.iface 107 (.pointer (some ⟨w.heap.size+1,0,none⟩))] w2 fun ev w'=>ev = .returned (.bool true)∧w'.cell? ⟨w.heap.size+1,0,none⟩=some (.int .i64 c)∧Below (w.heap.size+1) w2 w'):=fun c b p=>as_hit (w.heap.size+1) c b p _ _ _ w2 G2.out hm0 hm1 hm2 f0 f1 f2
  clear M2 hm0 hm1 hm2 f0 f1 f2 h0
  go_wp2_with fail
  refine(HA.out c b9 p9).mono ?_
  rintro e w3 ⟨rfl,c3,b3⟩
  have B3:Hid (Below w.heap.size w w3):=B2.out.trans (b3.mono (by omega))
  clear b3
  go_wp2_with fail
  go_ret
  exact⟨rfl,B3.out⟩
theorem own : ownKnob Tryz.prog.godebug=none:=by kernel_rfl
theorem handleVar : Tryz.prog.globalNamed "errors.errorType" = some 0:=by kernel_rfl
theorem handleRow : (Tryz.prog.cutTypes.find? (·.1 == "internal/reflectlite.rtype")).map (·.2)=some 233:=by kernel_rfl
theorem handleOne : ((List.range 338).filter fun t=>Tryz.prog.rowNamed t [101,114,114,111,114]) = [105]:=by kernel_rfl
theorem handleSize : Tryz.prog.types.size=338:=by kernel_rfl
theorem of_laid {W:World}(h:laidMetH Tryz.prog [("errors.errorType",Rows.laid_errors_errorType)] W):HandleAt W:=by
 have h':laidMet Tryz.prog [] W∧handlesMet Tryz.prog [("errors.errorType",Rows.laid_errors_errorType)] W:=h
 obtain⟨name,u,ty,e1,e2,e3,e4,e5⟩:=h'.2 _ (List.mem_singleton.2 rfl)
 have en:name = [101,114,114,111,114]:=(Option.some.inj e1).symm
 subst en
 obtain rfl:=Option.some.inj (handleRow.symm.trans e2)
 have hm:ty∈(List.range 338).filter fun t=>Tryz.prog.rowNamed t [101,114,114,111,114]:=List.mem_filter.2 ⟨List.mem_range.2 (by rw[←handleSize];exact e3),e4⟩
 rw[handleOne] at hm
 obtain rfl:=List.mem_singleton.1 hm
 have hh:typeHandle Tryz.prog 105 = .pointer (some ⟨1,105,none⟩):=by kernel_rfl
 rw[hh] at e5
 exact(show W.cell? ⟨0,0,none⟩=_ by simpa using World.var?_cell handleVar e5 0)
noncomputable def laidWorld (os:Os):World :=
 let w0:=World.holding Tryz.prog os ⟨#[],#[],[]⟩
 { w0 with heap:=w0.heap.modify 0 fun
   | .cells _ t frozen=>.cells #[.iface 233 (.agg #[.pointer (some ⟨1,105,none⟩)])] t frozen
   | o=>o }
theorem laidWorld_met (os:Os)(args:Array Value):laidMetH Tryz.prog [("errors.errorType",Rows.laid_errors_errorType)] ((laidWorld os).forCall (fun _ _=>0) ⟨#[],args,[]⟩).memory :=
 laidMetH_of_parts (laidMet_nil _ _) (by kernel_rfl)
end Go.Proofs.YtfnilamkapabkaaGreatDoor
