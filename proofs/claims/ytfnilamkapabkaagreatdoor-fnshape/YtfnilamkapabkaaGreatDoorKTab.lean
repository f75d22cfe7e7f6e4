/- Sets of blocks: an array of bools by value, and its methods. A table of sets of blocks: an array of arrays by value, in a block of memory; rows out of it and into it. A region that draws its order, one operation of which waits for all others: what others read need not hold behind that one. A region that draws its order within the body of a range over a function. Sets and tables of blocks, each held against another as a whole. A set of blocks as a list of numbers. -/
import Derived.Test.YtfnilamkapabkaaGreatDoorKSeq
import Derived.Deep.MidRow
import Derived.Deep.WholeRow
import Derived.Laws.ResultCell
import Derived.Laws.CopyOwn
import Derived.Test.YtfnilamkapabkaaGreatDoorKDfs
import Derived.OrdersHeld
import Derived.Deep.RegionHeld3
import Derived.Test.YtfnilamkapabkaaGreatDoorKWalk
import Derived.OrdersIn
import Derived.ChangeKeysEq
import Derived.Laws.StructEq
import Derived.Test.YtfnilamkapabkaaGreatDoorKGraph
namespace Go.Proofs.YtfnilamkapabkaaGreatDoor
open Go.ChangeShapes Go.WideShapes Go.ChangeAt Go.RowKit Go.Shelf
set_option linter.unusedVariables false
theorem heap_last {w:World}{o:Obj}{k:Nat}(h:w.heap.size=k):(w.alloc o).heap[k]? = some o:=by subst h;exact World.alloc_heap_new w o
theorem range_of_row {w:World}{b:Nat}{c:Array Value}{t:TypeId}{z:Nat × Nat}(h:w.heap[b]? = some (.cells c t z)):w.rangeAt b 0 c.toList:=fun j v hv=>by
 simp[World.cell?,h]
 simpa using hv
theorem wpList_load_row {P:Program}{ops:Array Oper}{rest:List Oper}{op:Oper}{a:Act}{w:World}{Q:Exit→Act→World→Prop}(hgd:op.guard=none)(ty:TypeId)(x:Operand)(ho:op.op = .load ty x)
  (b:Nat) (hx:a.eval x = .pointer (some ⟨b,0,none⟩)) (c:Array Value) (t:TypeId) (z:Nat × Nat) (d:TypeDesc) (hc:w.heap[b]? = some (.cells c t z))
  (hu:P.underlying ty=some d) (hd:d.isRow=true) (hi:(P.info? ty).map (·.size)=some c.size)
  (h:wpList P ops Q rest (a.put op.dst (.agg c)) w):wpList P ops Q (op :: rest) a w :=
 wpList_load_mid hgd ty x ho b 0 hx c.toList d (range_of_row hc) hu hd (by simpa using hi) (by simpa using h)
theorem wpList_store_row {P:Program}{ops:Array Oper}{rest:List Oper}{op:Oper}{a:Act}{w:World}{Q:Exit→Act→World→Prop}(hgd:op.guard=none)(ty:TypeId)(x y:Operand)(ho:op.op = .store ty x y)
  (b:Nat) (c c':Array Value) (t:TypeId) (hx:a.eval x = .pointer (some ⟨b,0,none⟩)) (hy:a.eval y = .agg c') (hc:w.heap[b]? = some (.cells c t (0,0)))
  (hi:(P.info? ty).map (·.size)=some c'.size) (hs:c.size=c'.size) (h1:c'.all (·.oneCell')=true)
  (h:wpList P ops Q rest (a.put op.dst undef) (w.setRow b c')):wpList P ops Q (op :: rest) a w :=
 wpList_plain hgd fun _ hK=>by
  unfold Oper.wp execOp
  simp only[ho,hx,hy,Instr.storeAt,Instr.sureAddr,Sem.run_bind,Sem.run_pure,Result.andThen_ok,run_storeVar_row w b t ty c c' hc hi hs h1]
  exact hK _ _ h
theorem results_cell1 {fn:Func}{p:Tmp}{ty:TypeId}(h:fn.results = #[.cell p ty])(tmps:Array Value)(P:Program)(w:World) :
  (results fn tmps).run P w=((asAddr (tmps.getD p undef)).run P w).andThen fun a w₁=>(loadVar ty a).run P w₁:=by
 simp only[results,h]
 simp[Sem.run_bind,Result.andThen]
theorem row_results {P:Program}{fn:Func}{p:Tmp}{ty:TypeId}(h:fn.results = #[.cell p ty]){tmps:Array Value}{w:World}{b:Nat}(hp:tmps.getD p undef = .pointer (some ⟨b,0,none⟩)){c:Array Value}{t:TypeId}{z:Nat × Nat}(hb:w.heap[b]? = some (.cells c t z)){d:TypeDesc}
  (hu:P.underlying ty=some d) (hd:d.isRow=true) (hi:(P.info? ty).map (·.size)=some c.size):(results fn tmps).run P w = .ok (.agg c) w:=by
 rw[results_cell1 h,hp]
 have:=run_loadVar_mid (P:=P) w b 0 ty c.toList d (range_of_row hb) hu hd (by simpa using hi)
 simp only[Array.toArray_toList] at this
 simp[asAddr,Result.andThen,this]
def rowC (f:Nat→Bool):List Value:=(List.range 16).map (fun a=>Value.bool (f a))
theorem rowC_len (f:Nat→Bool):(rowC f).length=16:=by simp[rowC]
theorem rowC_at (f:Nat→Bool){a:Nat}(h:a<16):(rowC f)[a]? = some (.bool (f a)):=by simp[rowC,h]
theorem rowC_one (f:Nat→Bool):∀v∈rowC f,v.oneCell'=true:=by
 intro v hv
 obtain⟨a,_,rfl⟩:=List.mem_map.1 hv
 rfl
theorem rowC_congr {f g:Nat→Bool}(h:∀a,a<16→f a=g a):rowC f=rowC g:=List.map_congr_left (fun a ha=>by rw[h a (by simpa using ha)])
theorem rowC_set (f:Nat→Bool)(b:Nat)(v:Bool):(rowC f).toArray.setIfInBounds b (.bool v)=(rowC (fun a=>if a=b then v else f a)).toArray:=by
 apply Array.ext
 ·simp[rowC]
 ·intro i h1 h2
  have hi:i<16:=by simpa [rowC] using h1
  rw[Array.getElem_setIfInBounds (by simpa [rowC] using hi)]
  by_cases e:b=i
  ·subst e
   simp[rowC]
  ·have e2:¬i=b:=fun h=>e h.symm
   simp[rowC,e,e2]
def setV (f:Nat→Bool):Value := .agg (rowC f).toArray
theorem info_set : (Tryz.prog.info? 93).map (·.size)=some 16:=by kernel_rfl
theorem zero_set : (#[Value.bool false,.bool false,.bool false,.bool false,.bool false,.bool false,.bool false,.bool false,.bool false,.bool false,.bool false,.bool false,.bool false,.bool false,.bool false,.bool false]:Array Value)=(rowC (fun _=>false)).toArray:=rfl
def GivesSet (w:World)(f:Nat→Bool)(e:Ending)(w':World):Prop:=e = .returned (setV f)∧Below w.heap.size w w'
set_option maxHeartbeats 1000000 in
theorem with_any (f:Nat→Bool)(bn:Nat)(hb:bn<16)(w:World) :
  Calls Tryz.prog 155 #[setV f,.int .i64 bn] w fun e w'=>GivesSet w (fun a=>f a || decide (a=bn)) e w':=by
 obtain⟨c,hc⟩:∃c,(rowC f).toArray=c:=⟨_,rfl⟩
 have hcs:c.size=16:=by rw[←hc];simp[rowC_len]
 obtain⟨c',hc'⟩:∃c',(rowC (fun a=>f a || decide (a=bn))).toArray=c':=⟨_,rfl⟩
 have hcs':c'.size=16:=by rw[←hc'];simp[rowC_len]
 have hset:c.setIfInBounds bn (.bool true)=c':=by
  rw[←hc,←hc',rowC_set,rowC_congr]
  intro a _
  by_cases e:a=bn <;> simp[e]
 have H1:Hid (c'.all (·.oneCell')=true):=by
  show c'.all (·.oneCell')=true
  rw[←hc'];exact all_oneCell_toArray (rowC_one _)
 have HR:Hid ((rowC (fun a=>f a || decide (a=bn))).toArray=c'):=hc'
 unfold setV
 rw[hc]
 clear hc hc'
 go_enter Tryz.func155,Tryz.ntmps155
 go_wp2_with (first
  | refine wpList_load_row rfl 93 _ rfl w.heap.size rfl c' 93 (0,0) _ ((Below.heap_alloc _ _ _ (by simp)).trans (World.alloc_heap_new _ _)) Tryz.underlying93 rfl (by rw[hcs'];exact info_set) ?_
  | refine wpList_store_row rfl 93 _ _ rfl (w.heap.size+1) _ c' _ rfl rfl (heap_last (by simp)) (by rw[hcs'];exact info_set) (by rw[hcs'];rfl) H1.out ?_)
 refine bodyPost_ret (v := .agg c') (row_results rfl rfl (setRow_heap _ _ _ _ _ _ (heap_last (by simp))) Tryz.underlying93 rfl (by rw[hcs'];exact info_set)) rfl ?_
 refine⟨by rw[setV,HR.out],below_setRow ?_ (by omega) _⟩
 repeat (first | exact Below.refl _ _ | apply Below.drew | refine Below.alloc ?_ (by simp <;> omega) _ | refine Below.setCell ?_ (by simp <;> omega) _)
set_option maxHeartbeats 1000000 in
theorem setHas_any (f:Nat→Bool)(bn:Nat)(hb:bn<16)(w:World) :
  Calls Tryz.prog 65 #[setV f,.int .i64 bn] w fun e w'=>e = .returned (.bool (f bn))∧Below w.heap.size w w':=by
 obtain⟨c,hc⟩:∃c,(rowC f).toArray=c:=⟨_,rfl⟩
 have hcs:c.size=16:=by rw[←hc];simp[rowC_len]
 obtain⟨r,hr⟩:∃r,f bn=r:=⟨_,rfl⟩
 have q0:c[bn]? = some (.bool r):=by rw[←hc,←hr];simpa using rowC_at f hb
 have hq:∀h,c[bn]'h = .bool r:=fun h=>by
  rw[Array.getElem?_eq_getElem h] at q0
  simpa using q0
 rw[hr]
 unfold setV
 rw[hc]
 clear hc hr q0
 go_enter Tryz.func65,Tryz.ntmps65
 go_wp2
 go_ret
 refine⟨rfl,?_⟩
 repeat (first | exact Below.refl _ _ | apply Below.drew | refine Below.alloc ?_ (by simp <;> omega) _ | refine Below.setCell ?_ (by simp <;> omega) _)
def bothUp (f g:Nat→Bool)(k:Nat):Nat→Bool:=fun a=>if a<k then f a && g a else f a
set_option maxHeartbeats 2000000 in
theorem both_any (f g:Nat→Bool)(w:World) :
  Calls Tryz.prog 156 #[setV f,setV g] w fun e w'=>GivesSet w (fun a=>f a && g a) e w':=by
 have e0:f=bothUp f g 0:=by funext a;simp[bothUp]
 have HE0:Hid (f=bothUp f g 0):=e0
 clear e0
 obtain⟨d,hd⟩:∃d,(rowC g).toArray=d:=⟨_,rfl⟩
 have hds:d.size=16:=by rw[←hd];simp[rowC_len]
 have HD:Hid ((rowC g).toArray=d):=hd
 obtain⟨c,hc⟩:∃c,(rowC f).toArray=c:=⟨_,rfl⟩
 have hcs:c.size=16:=by rw[←hc];simp[rowC_len]
 have HC:Hid ((rowC f).toArray=c):=hc
 unfold setV
 rw[hc,hd]
 clear hc hd
 go_enter Tryz.func156,Tryz.ntmps156
 go_wp2_with fail
 go_loopw [6] (fun i wr=>∃k:Nat,k≤16∧i = .int .i64 k∧wr=((w.alloc (.cells (rowC (bothUp f g k)).toArray 93)).alloc (.cells d 93)).alloc (.cells (rowC (fun _=>false)).toArray 93)) (fun i _=>(16-intOf i).toNat)
 case atStart=>exact⟨0,Nat.zero_le _,rfl,by rw[←HE0.out,HC.out];rfl⟩
 case round=>
  obtain⟨k,hk,rfl,hwr⟩:=hrel
  obtain⟨ck,hck⟩:∃ck,(rowC (bothUp f g k)).toArray=ck:=⟨_,rfl⟩
  have HCK:Hid ((rowC (bothUp f g k)).toArray=ck):=hck
  obtain⟨z,hz⟩:∃z,(rowC (fun _=>false)).toArray=z:=⟨_,rfl⟩
  have HZ:Hid ((rowC (fun _=>false)).toArray=z):=hz
  have hzs:z.size=16:=by rw[←hz];simp[rowC_len]
  have hcks:ck.size=16:=by rw[←hck];simp[rowC_len]
  rw[hck,hz] at hwr
  clear hck hz
  subst hwr
  by_cases hlt:(k:Int)<16
  ·have hk16:k<16:=by omega
   obtain⟨x,hx⟩:∃x,f k=x:=⟨_,rfl⟩
   obtain⟨y,hy⟩:∃y,g k=y:=⟨_,rfl⟩
   have q1:∀h,ck[k]'h = .bool x:=fun h=>by
    have:=rowC_at (bothUp f g k) hk16
    have h2:ck[k]? = some (.bool x):=by rw[←HCK.out,←hx];simpa [bothUp] using this
    rw[Array.getElem?_eq_getElem h] at h2
    simpa using h2
   have q2:∀h,d[k]'h = .bool y:=fun h=>by
    have:=rowC_at g hk16
    have h2:d[k]? = some (.bool y):=by rw[←HD.out,←hy];simpa using this
    rw[Array.getElem?_eq_getElem h] at h2
    simpa using h2
   have HX:Hid (f k=x):=hx
   have HY:Hid (g k=y):=hy
   clear hx hy
   have hend:∀v:Bool,v=(x && y)→ck.setIfInBounds k (.bool v)=(rowC (bothUp f g (k+1))).toArray:=fun v hv=>by
    rw[←HCK.out,rowC_set,rowC_congr]
    intro a _
    by_cases e:a=k
    ·subst e
     simp[bothUp,hv,HX.out,HY.out]
    ·by_cases h2:a<k
     ·simp[bothUp,e,h2,show a<k+1 from by omega]
     ·simp[bothUp,e,h2,show ¬a<k+1 from by omega]
   have HEND:Hid (∀v:Bool,v=(x && y)→ck.setIfInBounds k (.bool v)=(rowC (bothUp f g (k+1))).toArray):=hend
   clear hend
   cases x
   ·go_wp2_with fail
    go_roundw
    case rel=>exact⟨k+1,by omega,by go_num,by rw[HEND.out false rfl,HZ.out]⟩
    case measure=>simp[intOf];omega
   ·go_wp2_with fail
    go_roundw
    case rel=>exact⟨k+1,by omega,by go_num,by rw[HEND.out y rfl,HZ.out]⟩
    case measure=>simp[intOf];omega
  ·have hk16:k=16:=by omega
   subst hk16
   have H1:Hid (ck.all (·.oneCell')=true):=by
    show ck.all (·.oneCell')=true
    rw[←HCK.out];exact all_oneCell_toArray (rowC_one _)
   go_wp2_with (first
    | refine wpList_load_row rfl 93 _ rfl w.heap.size rfl ck 93 (0,0) _ ((Below.heap_alloc _ _ _ (by simp;omega)).trans ((Below.heap_alloc _ _ _ (by simp)).trans (World.alloc_heap_new _ _))) Tryz.underlying93 rfl (by rw[hcks];exact info_set) ?_
    | refine wpList_store_row rfl 93 _ _ rfl (w.heap.size+1+1) _ ck _ rfl rfl (heap_last (by simp)) (by rw[hcks];exact info_set) (by rw[hcks,hzs]) H1.out ?_)
   refine bodyPost_ret (v := .agg ck) (row_results rfl rfl (setRow_heap _ _ _ _ _ _ (heap_last (by simp))) Tryz.underlying93 rfl (by rw[hcks];exact info_set)) rfl ?_
   refine⟨?_,below_setRow ?_ (by omega) _⟩
   ·rw[setV,←HCK.out,rowC_congr (f:=bothUp f g 16) (g:=fun a=>f a && g a)]
    intro a ha
    simp[bothUp,ha]
   ·repeat (first | exact Below.refl _ _ | apply Below.drew | refine Below.alloc ?_ (by simp <;> omega) _ | refine Below.setCell ?_ (by simp <;> omega) _)
def tabC (T:Tab):List Value:=(List.range 256).map (fun k=>Value.bool (T (k / 16) (k % 16)))
theorem tabC_len (T:Tab):(tabC T).length=256:=by simp[tabC]
theorem tabC_at (T:Tab){k:Nat}(h:k<256):(tabC T)[k]? = some (.bool (T (k / 16) (k % 16))):=by simp[tabC,h]
theorem tabC_one (T:Tab):∀v∈tabC T,v.oneCell'=true:=by
 intro v hv
 obtain⟨a,_,rfl⟩:=List.mem_map.1 hv
 rfl
theorem tabC_congr {T U:Tab}(h:TEq T U):tabC T=tabC U:=List.map_congr_left (fun k hk=>by
 have:k<256:=by simpa using hk
 rw[h (k / 16) (k % 16) (by omega) (by omega)])
def putT (T:Tab)(b:Nat)(f:Nat→Bool):Tab:=fun x a=>if x=b then f a else T x a
theorem tabC_put (T:Tab){b:Nat}(hb:b<16)(f:Nat→Bool):(tabC T).take (b*16) ++ rowC f ++ (tabC T).drop (b*16+16)=tabC (putT T b f):=by
 apply List.ext_getElem?
 intro i
 have hl:((tabC T).take (b*16)).length=b*16:=by rw[List.length_take,tabC_len];omega
 by_cases h1:i<b*16
 ·rw[List.append_assoc,List.getElem?_append_left (by omega),List.getElem?_take,if_pos h1,tabC_at T (by omega),tabC_at _ (by omega)]
  have:i / 16≠b:=by omega
  simp[putT,this]
 ·by_cases h2:i<b*16+16
  ·rw[List.getElem?_append_left (by rw[List.length_append,hl,rowC_len];omega),List.getElem?_append_right (by omega),hl,rowC_at f (by omega),tabC_at _ (by omega)]
   have e1:i / 16=b:=by omega
   have e2:i % 16=i-b*16:=by omega
   simp[putT,e1,e2]
  ·rw[List.getElem?_append_right (by rw[List.length_append,hl,rowC_len];omega),List.length_append,hl,rowC_len,List.getElem?_drop]
   have e:b*16+16+(i-(b*16+16))=i:=by omega
   rw[e]
   by_cases h3:i<256
   ·rw[tabC_at T h3,tabC_at _ h3]
    have:i / 16≠b:=by omega
    simp[putT,this]
   ·rw[List.getElem?_eq_none (by rw[tabC_len];omega),List.getElem?_eq_none (by rw[tabC_len];omega)]
def tabV (T:Tab):Value := .agg (tabC T).toArray
def TabAt (w:World)(B:Nat)(T:Tab):Prop:=w.heap[B]? = some (.cells (tabC T).toArray 95 (0,0))
def SetAt (w:World)(B:Nat)(f:Nat→Bool):Prop:=w.heap[B]? = some (.cells (rowC f).toArray 93 (0,0))
theorem TabAt.lt {w:World}{B:Nat}{T:Tab}(h:TabAt w B T):B<w.heap.size:=(Array.getElem?_eq_some_iff.1 h).1
theorem SetAt.lt {w:World}{B:Nat}{f:Nat→Bool}(h:SetAt w B f):B<w.heap.size:=(Array.getElem?_eq_some_iff.1 h).1
theorem TabAt.keep {w w':World}{B:Nat}{T:Tab}(h:TabAt w B T)(hb:Below w.heap.size w w'):TabAt w' B T:=(hb.block B h.lt).trans h
theorem SetAt.keep {w w':World}{B:Nat}{f:Nat→Bool}(h:SetAt w B f)(hb:Below w.heap.size w w'):SetAt w' B f:=(hb.block B h.lt).trans h
theorem TabAt.row {w:World}{B:Nat}{T:Tab}(h:TabAt w B T){b:Nat}(hb:b<16):w.rangeAt B (b*16) (rowC (T b)):=fun j v hv=>by
 have hj:j<16:=by have:=(List.getElem?_eq_some_iff.1 hv).1;rw[rowC_len] at this;exact this
 rw[rowC_at _ hj] at hv
 have e:=tabC_at T (k:=b*16+j) (by omega)
 have e1:(b*16+j) / 16=b:=by omega
 have e2:(b*16+j) % 16=j:=by omega
 rw[e1,e2] at e
 rw[←hv,←e]
 simp[World.cell?,show w.heap[B]? = _ from h]
theorem info_tab : (Tryz.prog.info? 95).map (·.size)=some 256:=by kernel_rfl
def GivesTab (w:World)(T:Tab)(e:Ending)(w':World):Prop:=e = .returned (tabV T)∧Below w.heap.size w w'
theorem wpList_store_part {P:Program}{ops:Array Oper}{rest:List Oper}{op:Oper}{a:Act}{w:World}{Q:Exit→Act→World→Prop}(hgd:op.guard=none)(ty:TypeId)(x y:Operand)(ho:op.op = .store ty x y)
  (b o:Nat) (c:Array Value) (vs:List Value) (t:TypeId) (hx:a.eval x = .pointer (some ⟨b,o,none⟩)) (hy:a.eval y = .agg vs.toArray) (hc:w.heap[b]? = some (.cells c t (0,0)))
  (hi:(P.info? ty).map (·.size)=some vs.length) (hs:o+vs.length≤c.size) (h1:∀v∈vs,v.oneCell'=true)
  (h:wpList P ops Q rest (a.put op.dst undef) (w.setRow b (c.toList.take o ++ vs ++ c.toList.drop (o+vs.length)).toArray)):wpList P ops Q (op :: rest) a w :=
 wpList_plain hgd fun _ hK=>by
  have hst:=run_storeCells_at (P:=P) b o t vs 0 c w hc (by simp;omega) h1
  simp only[Nat.add_zero] at hst
  have hsv:(storeVar ty ⟨b,o,none⟩ (.agg vs.toArray)).run P w = .ok () (w.setRow b (c.toList.take o ++ vs ++ c.toList.drop (o+vs.length)).toArray):=by
   cases hq:P.info? ty with
   | none=>simp[hq] at hi
   | some i=>
    have hs:vs.length=i.size:=by simp[hq] at hi;omega
    simp[storeVar,sizeOf,typeInfo,hq,Value.cells,hs,hst]
  unfold Oper.wp execOp
  simp only[ho,hx,hy,Instr.storeAt,Instr.sureAddr,Sem.run_bind,Sem.run_pure,Result.andThen_ok,hsv]
  exact hK _ _ h
theorem wpList_put_row {ops:Array Oper}{rest:List Oper}{op:Oper}{a:Act}{w:World}{Q:Exit→Act→World→Prop}(hgd:op.guard=none)(x y:Operand)(ho:op.op = .store 93 x y)
  (B b:Nat) (T:Tab) (f:Nat→Bool) (hb:b<16) (hx:a.eval x = .pointer (some ⟨B,b*16,none⟩)) (hy:a.eval y=setV f) (hc:TabAt w B T)
  (h:wpList Tryz.prog ops Q rest (a.put op.dst undef) (w.setRow B (tabC (putT T b f)).toArray)):wpList Tryz.prog ops Q (op :: rest) a w:=by
 refine wpList_store_part hgd 93 x y ho B (b*16) (tabC T).toArray (rowC f) 95 hx hy hc (by rw[rowC_len];exact info_set) (by rw[rowC_len,List.size_toArray,tabC_len];omega) (rowC_one f) ?_
 rw[rowC_len]
 simpa [tabC_put T hb f] using h
theorem TabAt.put {w:World}{B:Nat}{T U:Tab}(h:TabAt w B T):TabAt (w.setRow B (tabC U).toArray) B U:=setRow_heap w B _ _ _ _ h
theorem TabAt.far {w:World}{B C:Nat}{T:Tab}(h:TabAt w B T)(hne:B≠C)(c:Array Value):TabAt (w.setRow C c) B T:=(setRow_other w C B c hne).trans h
theorem SetAt.far {w:World}{B C:Nat}{f:Nat→Bool}(h:SetAt w B f)(hne:B≠C)(c:Array Value):SetAt (w.setRow C c) B f:=(setRow_other w C B c hne).trans h
theorem SetAt.put {w:World}{B:Nat}{f g:Nat→Bool}(h:SetAt w B f):SetAt (w.setRow B (rowC g).toArray) B g:=setRow_heap w B _ _ _ _ h
theorem SetAt.congr {w:World}{B:Nat}{f g:Nat→Bool}(h:SetAt w B f)(e:∀a,a<16→f a=g a):SetAt w B g:=by
 unfold SetAt at *
 rw[h,rowC_congr e]
theorem TabAt.congr {w:World}{B:Nat}{T U:Tab}(h:TabAt w B T)(e:TEq T U):TabAt w B U:=by
 unfold TabAt at *
 rw[h,tabC_congr e]
theorem zeroCells_tab : Tryz.zeroCells95=(tabC (fun _ _=>false)).toArray:=by kernel_rfl
theorem getD_mem {l:List Int}{k:Nat}(h:k<l.length):l.getD k 0∈l:=by
 have:l.getD k 0=l[k]:=by simp[List.getD,h]
 rw[this]
 exact List.getElem_mem h
theorem take_nextI {l:List Int}{k:Nat}(h:k<l.length):l.take (k+1)=l.take k ++ [l.getD k 0]:=by
 rw[List.take_add_one]
 simp[List.getD,h]
def inL (l:List Int):Nat→Bool:=fun a=>decide ((a:Int)∈l)
theorem inL_next {l:List Int}{k xn:Nat}(h:k<l.length)(hx:l.getD k 0=(xn:Int))(a:Nat):(inL (l.take k) a || decide (a=xn))=inL (l.take (k+1)) a:=by
 unfold inL
 rw[take_nextI h,hx]
 by_cases e:a=xn <;> simp[e,Int.ofNat_inj]
def startL (o:List Int):Tab:=putT (fun b a=>inL o b && inL o a) 0 (fun a=>decide (a=0))
theorem IntsAt.cells {w:World}{oa:Option Addr}{n ocap:Nat}{o:List Int}(h:IntsAt w (.slice oa n ocap) o):∀wr,Below w.heap.size w wr→∀k,k<n→∃b off,oa=some ⟨b,off,none⟩∧wr.cell? ⟨b,off+k,none⟩=some (.int .i64 (o.getD k 0)):=by
 intro wr hb k hk
 obtain⟨a,cap,e,_,hc⟩:=h.keep hb
 simp at e
 obtain⟨rfl,rfl,rfl⟩:=e
 obtain⟨b,off,rfl,hd⟩:=hc (by omega)
 exact⟨b,off,rfl,hd k hk⟩
set_option maxRecDepth 100000 in
set_option maxHeartbeats 4000000 in
theorem domStart_any (ov:Value)(o:List Int)(w:World)(ho:IntsAt w ov o)(hr:∀x∈o,0≤x∧x<16) :
  Calls Tryz.prog 96 #[ov] w fun e w'=>GivesTab w (startL o) e w':=by
 have HR:Hid (∀x∈o,0≤x∧x<16):=hr
 have HO:Hid (IntsAt w ov o):=ho
 obtain⟨oa,ocap,rfl,hmx,_⟩:=ho
 have HC:=HO.out.cells
 obtain⟨n,HN⟩:∃n,Hid (o.length=n):=⟨_,rfl⟩
 rw[HN.out] at hmx HC ⊢
 have HOC:Hid (∀wr,Below w.heap.size w wr→∀k,k<n→∃b off,oa=some ⟨b,off,none⟩∧wr.cell? ⟨b,off+k,none⟩=some (.int .i64 (o.getD k 0))):=HC
 have HEL:Hid (∀k,k<n→∃xn:Nat,o.getD k 0=(xn:Int)∧xn<16):=fun k hk=>by
  have:=HR.out _ (getD_mem (by rw[HN.out];exact hk))
  exact⟨(o.getD k 0).toNat,by omega,by omega⟩
 clear hr HC
 go_enter Tryz.func96,Tryz.ntmps96
 go_wp2_with fail
 go_loopw [11] (fun i wr=>∃k:Nat,k≤n∧i = .int .i64 k∧Below w.heap.size w wr∧TabAt wr w.heap.size (fun _ _=>false)∧SetAt wr (w.heap.size+1) (inL (o.take k))) (fun i _=>n-(intOf i).toNat)
 case atStart=>
  refine⟨0,Nat.zero_le _,rfl,by repeat (first | exact Below.refl _ _ | apply Below.drew | refine Below.alloc ?_ (by simp <;> omega) _ | refine Below.setCell ?_ (by simp <;> omega) _),?_,?_⟩
  ·rw[zeroCells_tab]
   exact(Below.heap_alloc _ _ _ (by simp)).trans (World.alloc_heap_new _ _)
  ·exact heap_last (by simp)
 case round=>
  obtain⟨k,hk,rfl,hB,hT,hS⟩:=hrel
  have HB:Hid (Below w.heap.size w wr):=hB
  have HT:Hid (TabAt wr w.heap.size (fun _ _=>false)):=hT
  have HS:Hid (SetAt wr (w.heap.size+1) (inL (o.take k))):=hS
  clear hB hT hS
  by_cases hlt:(k:Int)<(n:Int)
  ·obtain⟨b,off,rfl,q1⟩:=HOC.out wr HB.out k (by omega)
   obtain⟨xn,hx,hx16⟩:=HEL.out k (by omega)
   rw[hx] at q1
   have HX:Hid (o.getD k 0=(xn:Int)):=hx
   clear hx
   go_wp2_with (refine wpList_load_row rfl 93 _ rfl (w.heap.size+1) rfl _ _ _ _ HS.out Tryz.underlying93 rfl (by rw[List.size_toArray,rowC_len];exact info_set) ?_)
   refine(with_any (inL (o.take k)) xn hx16 _).mono ?_
   rintro e w1 ⟨rfl,b1⟩
   have S1:Hid (SetAt w1 (w.heap.size+1) (inL (o.take k))):=HS.out.keep b1
   have T1:Hid (TabAt w1 w.heap.size (fun _ _=>false)):=HT.out.keep b1
   have B1:Hid (Below w.heap.size w w1):=Bel.after HB.out b1
   clear b1 q1
   unfold setV
   go_wp2_with (refine wpList_store_row rfl 93 _ _ rfl (w.heap.size+1) _ _ _ rfl rfl S1.out (by rw[List.size_toArray,rowC_len];exact info_set) (by simp[rowC_len]) (all_oneCell_toArray (rowC_one _)) ?_)
   go_roundw
   case rel=>exact⟨k+1,by omega,by go_num,below_setRow B1.out (by omega) _,T1.out.far (by omega) _,(S1.out.put).congr (fun a _=>inL_next (by rw[HN.out];omega) HX.out a)⟩
   case measure=>simp[intOf];omega
  ·have hkn:k=n:=by omega
   subst hkn
   have HS2:Hid (SetAt wr (w.heap.size+1) (inL o)):=by
    have:=HS.out
    rw[←HN.out,List.take_length] at this
    exact this
   clear HS
   have hNw:w.heap.size+2≤wr.heap.size:=by have:=HS2.out.lt;omega
   go_wp2_with fail
   obtain⟨wT,hwT⟩:∃wT,wr.alloc (.cells Tryz.zeroCells95 95)=wT:=⟨_,rfl⟩
   have BT:Hid (Below w.heap.size w wT):=by rw[←hwT];exact Bel.after HB.out (Bel.alloc _ _)
   have TT:Hid (TabAt wT w.heap.size (fun _ _=>false)):=by rw[←hwT];exact HT.out.keep (Bel.alloc _ _)
   have ST:Hid (SetAt wT (w.heap.size+1) (inL o)):=by rw[←hwT];exact HS2.out.keep (Bel.alloc _ _)
   have NT:Hid (TabAt wT wr.heap.size (fun _ _=>false)):=by
    rw[←hwT,zeroCells_tab]
    exact World.alloc_heap_new _ _
   rw[hwT]
   clear hwT HB HT HS2
   obtain⟨TB,hTB⟩:∃TB,wr.heap.size=TB:=⟨_,rfl⟩
   rw[hTB] at hNw NT ⊢
   clear hTB
   go_loopw [21] (fun i wx=>∃j:Nat,j≤k∧i = .int .i64 j∧Below w.heap.size w wx∧TabAt wx w.heap.size (fun _ _=>false)∧SetAt wx (w.heap.size+1) (inL o)∧TabAt wx TB (fun b a=>inL (o.take j) b && inL o a)) (fun i _=>k-(intOf i).toNat)
   case atStart=>exact⟨0,Nat.zero_le _,rfl,BT.out,TT.out,ST.out,NT.out.congr (fun b a _ _=>by simp[inL])⟩
   case round=>
    obtain⟨j,hj,rfl,hB,hT,hS,hX⟩:=hrel
    have HB:Hid (Below w.heap.size w wr):=hB
    have HT:Hid (TabAt wr w.heap.size (fun _ _=>false)):=hT
    have HS:Hid (SetAt wr (w.heap.size+1) (inL o)):=hS
    have HX:Hid (TabAt wr TB (fun b a=>inL (o.take j) b && inL o a)):=hX
    clear hB hT hS hX
    by_cases hlt2:(j:Int)<(k:Int)
    ·obtain⟨b,off,rfl,q1⟩:=HOC.out wr HB.out j (by omega)
     obtain⟨xn,hx,hx16⟩:=HEL.out j (by omega)
     rw[hx] at q1
     have HE:Hid (o.getD j 0=(xn:Int)):=hx
     clear hx
     go_wp2_with (first
      | refine wpList_load_row rfl 93 _ rfl (w.heap.size+1) rfl _ _ _ _ HS.out Tryz.underlying93 rfl (by rw[List.size_toArray,rowC_len];exact info_set) ?_
      | refine wpList_put_row rfl _ _ rfl TB xn _ (inL o) hx16 rfl rfl HX.out ?_)
     go_roundw
     case rel=>
      refine⟨j+1,by omega,by go_num,below_setRow HB.out (by omega) _,HT.out.far (by omega) _,HS.out.far (by omega) _,(HX.out.put).congr (fun b a _ _=>?_)⟩
      rw[←inL_next (by rw[HN.out];omega) HE.out b]
      unfold putT
      by_cases e:b=xn <;> simp[e]
     case measure=>simp[intOf];omega
    ·have hjk:j=k:=by omega
     subst hjk
     have HX2:Hid (TabAt wr TB (fun b a=>inL o b && inL o a)):=by
      have:=HX.out
      rw[←HN.out,List.take_length] at this
      exact this
     clear HX
     go_wp2_with fail
     rw[zero_set]
     refine(with_any (fun _=>false) 0 (by omega) _).mono ?_
     rintro e w1 ⟨rfl,b1⟩
     have T1:Hid (TabAt w1 w.heap.size (fun _ _=>false)):=HT.out.keep b1
     have X1:Hid (TabAt w1 TB (fun b a=>inL o b && inL o a)):=HX2.out.keep b1
     have B1:Hid (Below w.heap.size w w1):=Bel.after HB.out b1
     clear b1
     unfold setV
     go_wp2_with (first
      | refine wpList_put_row rfl _ _ rfl TB 0 _ _ (by omega) rfl rfl X1.out ?_
      | refine wpList_load_row rfl 95 _ rfl TB rfl _ _ _ _ (X1.out.put) Tryz.underlying95 rfl (by rw[List.size_toArray,tabC_len];exact info_tab) ?_
      | refine wpList_store_row rfl 95 _ _ rfl w.heap.size _ _ _ rfl rfl (T1.out.far (by omega) _) (by rw[List.size_toArray,tabC_len];exact info_tab) (by simp[tabC_len]) (all_oneCell_toArray (tabC_one _)) ?_)
     refine bodyPost_ret (v:=tabV (startL o)) (row_results rfl rfl (setRow_heap _ _ _ _ _ _ (T1.out.far (by omega) _)) Tryz.underlying95 rfl (by rw[List.size_toArray,tabC_len];exact info_tab)) rfl ?_
     exact⟨rfl,below_setRow (below_setRow B1.out (by omega) _) (Nat.le_refl _) _⟩
section
variable {P:Program} {ops:Array Oper} {Q:Exit→Act→World→Prop} {md:Region.Mode} {S:World→Prop} {m:Nat}
def wpAnyM (P:Program)(md:Region.Mode)(ops:Array Oper)(Q:Exit→Act→World→Prop)(m:Nat)(S:World→Prop):Nat→Array Bool→Act→World→Prop
 | 0,li,a,w=>Region.ready md ops li = []∧Q .normal a w
 | fuel+1,li,a,w=>(Region.ready md ops li = []→Q .normal a w)∧∀i∈Region.ready md ops li,wpOp P ops Q i (fun a' w'=>(i≠m→S w')∧wpAnyM P md ops Q m S fuel (li.setIfInBounds i true) a' w') a w
theorem wpAnyM.any : ∀(fuel:Nat) (li:Array Bool) (a:Act) (w:World),wpAnyM P md ops Q m S fuel li a w→wpAny P md ops Q fuel li a w
 | 0,_,_,_,h=>h
 | fuel+1,_,_,_,h=>⟨h.1,fun i hi=>wpOp_mono (fun a' w' h'=>wpAnyM.any fuel _ a' w' h'.2) (h.2 i hi)⟩
def waitsFor (md:Region.Mode)(ops:Array Oper)(m i:Nat):Bool:=match ops[m]? with | some o=>o.after.any (fun e=>Region.binds md e && e.on == i) | none=>true
theorem waitsFor_spec {i:Nat}{o:Oper}(h:waitsFor md ops m i=true)(ho:ops[m]? = some o):∃e∈o.after,Region.binds md e=true∧e.on=i:=by
 simp only[waitsFor,ho,Array.any_eq_true'] at h
 obtain⟨e,he,hb⟩:=h
 simp at hb
 exact⟨e,he,hb⟩
theorem wpAnyM_first {i:Nat}{oi:Oper}{v:Value}(hi:ops[i]? = some oi)(hsel:∀(j:Nat) (o:Oper) cs b,ops[j]? = some o→o.op≠.select cs b)
  (hQ:∀c a w,Q (.panic c) (a.put oi.dst v) w→Q (.panic c) a w) (hm:waitsFor md ops m i=true):∀(fuel:Nat) (li:Array Bool) (a:Act) (w:World),
   (∀j oj,ops[j]? = some oj→j≠i→li.getD j true=false→(∀e∈oj.after,Region.binds md e=true→e.on≠i)→oi.apart ops oj=true) →
   i∈Region.ready md ops li→YieldsIf P ops S oi v a→S w →
   wpAnyM P md ops Q m S fuel (li.setIfInBounds i true) (a.put oi.dst v) w→wpAnyM P md ops Q m S (fuel+1) li a w
 | fuel,li,a,w,hfree,hr,hy,hS,H=>by
  refine⟨fun h=>(by rw[h] at hr;simp at hr),fun j hj=>?_⟩
  by_cases hji:j=i
  ·subst hji
   exact hy.wpOp hi hS ⟨fun _=>hS,H⟩
  ·have hj2:=ready_mono hj hji
   cases fuel with
   | zero=>
    rw[H.1] at hj2
    simp at hj2
   | succ fuel=>
    obtain⟨hjun,oj,hoj,hall⟩:=mem_ready.1 hj
    have hnot:∀e∈oj.after,Region.binds md e=true→e.on≠i:=fun e he hb heq=>by
     have h1:=hall e he hb
     have h0:=(mem_ready.1 hr).1
     rw[heq] at h1
     rcases Nat.lt_or_ge i li.size with h' | h'
     ·simp[h'] at h0 h1
      rw[h0] at h1
      simp at h1
     ·simp[Array.getElem?_eq_none h'] at h1
    have hjm:j≠m:=fun e=>by
     subst e
     obtain⟨e,he,hb,ho⟩:=waitsFor_spec hm hoj
     exact hnot e he hb ho
    have h2:=wpOp_putIf hoj (hfree j oj hoj hji hjun hnot) (fun cs b=>hsel i oi cs b hi) (fun cs b=>hsel j oj cs b hoj) hQ hy (H.2 j hj2)
    refine wpOp_mono (fun a' w' h3=>⟨fun _=>h3.2.1 hjm,?_⟩) h2
    refine wpAnyM_first hi hsel hQ hm fuel (li.setIfInBounds j true) a' w' (fun k ok hk hki hun hno=>hfree k ok hk hki ?_ hno) (ready_mono hr (Ne.symm hji)) h3.1 (h3.2.1 hjm) ?_
    ·by_cases hjk:j=k
     ·subst hjk;exact hjun
     ·rw[getD_set_ne true hjk] at hun;exact hun
    ·rw[Array.setIfInBounds_comm _ _ hji]
     exact h3.2.2
theorem wpAnyM_take {i:Nat}{oi:Oper}{v:Value}{fuel:Nat}{li:Array Bool}{a:Act}{w:World}(hi:ops[i]? = some oi)
  (hs:Region.noSelect ops=true) (hf:Region.free md ops li i=true) (hr:(Region.ready md ops li).contains i=true) (hm:waitsFor md ops m i=true)
  (hQ:∀c a w,Q (.panic c) (a.put oi.dst v) w→Q (.panic c) a w) (hy:YieldsIf P ops S oi v a) (hS:S w)
  (h:wpAnyM P md ops Q m S fuel (li.setIfInBounds i true) (a.put oi.dst v) w):wpAnyM P md ops Q m S (fuel+1) li a w :=
 wpAnyM_first hi (Region.noSelect_spec hs) hQ hm fuel li a w (Region.free_spec hi hf) (by simpa using hr) hy hS h
theorem wpAnyM_one {i:Nat}{o:Oper}{fuel:Nat}{li:Array Bool}{a:Act}{w:World}(ho:ops[i]? = some o)(hg:o.guard=none)(hr:Region.ready md ops li = [i])
  (h:o.wp P a w (fun a' w'=>(i≠m→S w')∧wpAnyM P md ops Q m S fuel (li.setIfInBounds i true) a' w') Q):wpAnyM P md ops Q m S (fuel+1) li a w:=by
 refine⟨fun h0=>(by rw[hr] at h0;simp at h0),fun j hj=>?_⟩
 rw[hr] at hj
 have:j=i:=by simpa using hj
 subst this
 unfold wpOp
 simp only[ho]
 have hw:Region.wanted o (yielded ops a.tmps)=true:=by simp[Region.wanted,hg]
 rw[if_pos hw]
 exact .inl h
theorem wpAnyM_done {li:Array Bool}{a:Act}{w:World}(hr:Region.ready md ops li = [])(h:Q .normal a w):∀fuel,wpAnyM P md ops Q m S fuel li a w
 | 0=>⟨hr,h⟩
 | _+1=>⟨fun _=>h,by rw[hr];simp⟩
theorem region_M (m:Nat)(S:World→Prop){id:Nat}{a:Act}{w:World}(hm:P.follows .mixedOrders=true)
  (h:wpAnyM P .any ops Q m S ops.size (Array.replicate ops.size false) a w.drew):(Code.region id ops true).wp P Q a w :=
 wp_region_any hm (wpAnyM.any _ _ _ _ h)
theorem wp_call_of {o:Oper}{a:Act}{w:World}{K:Act→World→Prop}{f:FuncId}{args:Array Value}{R:Ending→World→Prop}(he:(execOp a.eval o).run P w = .ok (.enter f args) w)(h:Calls P f args w R)
  (hR:∀e w',R e w'→∃v,e = .returned v∧K (a.put o.dst v) w'):o.wp P a w K Q:=by
 unfold Oper.wp
 rw[he]
 refine Calls.mono h (fun e w' hr=>?_)
 obtain⟨v,rfl,hk⟩:=hR e w' hr
 exact hk
theorem yields_move {o:Oper}{v:Value}{a:Act}{x:Operand}(hg:o.guard=none)(ho:o.op = .move x)(hx:a.eval x=v):YieldsIf P ops S o v a :=
 .inl ⟨by simp[Region.wanted,hg],fun W _=>by simp[execOp,ho,hx]⟩
theorem yields_load {o:Oper}{v:Value}{a:Act}{x:Operand}{t:TypeId}(hg:o.guard=none)(ho:o.op = .load t x){p:Value}(hx:a.eval x=p)(hl:∀W,S W→(Instr.loadAt t p).run P W = .ok v W):YieldsIf P ops S o v a :=
 .inl ⟨by simp[Region.wanted,hg],fun W hW=>by simp[execOp,ho,hx,hl W hW]⟩
theorem yields_index {o:Oper}{v:Value}{a:Act}{x y:Operand}{t:TypeId}(hg:o.guard=none)(ho:o.op = .indexAddr t x y){p i:Value}(hx:a.eval x=p)(hy:a.eval y=i)(hl:∀W,S W→(Instr.indexAt t p i).run P W = .ok v W):YieldsIf P ops S o v a :=
 .inl ⟨by simp[Region.wanted,hg],fun W hW=>by simp[execOp,ho,hx,hy,hl W hW]⟩
theorem put_ne {a:Act}{d t:Nat}{v:Value}(h:d≠t):(a.put (some d) v).eval (.tmp t)=a.eval (.tmp t):=by
 unfold Act.put Act.eval
 simp only[Array.getD_eq_getD_getElem?,Array.getElem?_setIfInBounds_ne h]
theorem put_eq {a:Act}{d:Nat}{v:Value}(h:d<a.tmps.size):(a.put (some d) v).eval (.tmp d)=v:=by
 simp[Act.put,Act.eval,Array.getD,h]
theorem put_size {a:Act}{d:Nat}{v:Value}:(a.put (some d) v).tmps.size=a.tmps.size:=by simp[Act.put]
end
section
variable {P:Program} {ops:Array Oper} {Q:Exit→Act→World→Prop} {md:Region.Mode}
theorem operIn_of_oper {l n:Nat}{o:Oper}{a:Act}{w:World}{K:Act→World→Prop}(hd:∀c,o.op≠.defer c)(h:o.wp P a w K Q):o.wpIn (Fence.wide.inRound l) n P a w K Q:=by
 unfold Oper.wpIn
 refine⟨fun _ _=>trivial,?_⟩
 rw[Oper.semAt_eq _ _ _ hd]
 unfold Oper.wp at h
 generalize (execOp a.eval o).run P w=r at *
 cases r with
 | ok x w'=>
  cases x <;> simp only[Oper.upon,Oper.uponIn] at h ⊢ <;>
   first
    | exact h
    | exact⟨fun e=>by simp[Fence.wide] at e,CallsIn.inRound l (callsIn_wide.2 h)⟩
    | exact⟨fun e=>by simp[Fence.wide] at e,fun c cs _=>let ⟨v,w',r,s⟩:=h c cs;⟨v,w',r,stepsIn_wide.2 s⟩⟩
 | halt x w'=>cases x <;> simp only[Oper.upon,Oper.uponIn] at h ⊢ <;> exact h
def noDefer (ops:Array Oper):Bool:=ops.all (fun o=>match o.op with | .defer _=>false | _=>true)
theorem noDefer_spec (h:noDefer ops=true){i:Nat}{o:Oper}(ho:ops[i]? = some o):∀c,o.op≠.defer c:=fun c hc=>by
 have:=(Array.all_eq_true_iff_forall_mem.1 h) o (Array.mem_of_getElem? ho)
 simp[hc] at this
theorem anyIn_of_any {l n:Nat}(hd:noDefer ops=true)(ho:∀a w,¬Q .outgrown a w):∀(fuel:Nat) (li:Array Bool) (a:Act) (w:World),wpAny P md ops Q fuel li a w→wpAnyIn (Fence.wide.inRound l) n P md ops Q fuel li a w
 | 0,_,_,_,h=>h
 | fuel+1,li,a,w,h=>⟨h.1,fun i hi=>by
  have h1:=wpOp_mono (fun a' w' h'=>anyIn_of_any (l:=l) (n:=n) hd ho fuel _ a' w' h') (h.2 i hi)
  unfold wpOp at h1
  unfold wpOpIn
  cases hoi:ops[i]? with
  | none=>simpa [hoi] using h1
  | some o=>
   simp only[hoi] at h1 ⊢
   by_cases hw:Region.wanted o (yielded ops a.tmps)=true
   ·rw[if_pos hw] at h1 ⊢
    rcases h1 with h1 | ⟨_,a0,w0,h0⟩
    ·exact operIn_of_oper (noDefer_spec hd hoi) h1
    ·exact absurd h0 (ho a0 w0)
   ·rw[if_neg hw] at h1 ⊢
    exact⟨fun _ _=>trivial,h1⟩⟩
theorem region_round (m:Nat)(S:World→Prop){l n id:Nat}{a:Act}{w:World}(hm:P.follows .mixedOrders=true)(hd:noDefer ops=true)
  (h:wpAnyM P .any ops (onlyNormal (fun a w=>Q .normal a w)) m S ops.size (Array.replicate ops.size false) a w.drew):(Code.region id ops true).wpIn (Fence.wide.inRound l) n P Q a w :=
 wpIn_normal (wpIn_region_any hm (anyIn_of_any hd (fun a w h=>h) _ _ _ _ (wpAnyM.any _ _ _ _ h)))
end
theorem run_items {P:Program}(w:World)(d:Nat)(e:TypeId)(c:Nat)(xs ys:Array Value)(X Y:Nat→Value)(E:Nat→Bool):∀is:List Nat,
  (∀i∈is,(part e xs (i*c)).run P w = .ok (X i) w)→(∀i∈is,(part e ys (i*c)).run P w = .ok (Y i) w)→(∀i∈is,(Op.equalIn d e (X i) (Y i)).run P w = .ok (E i) w) →
  (Op.eqItems d e c xs ys is).run P w = .ok (is.all E) w
 | [],_,_,_=>by simp[Op.eqItems]
 | i :: is,hx,hy,hE=>by
  have ih:=run_items w d e c xs ys X Y E is (fun j hj=>hx j (by simp[hj])) (fun j hj=>hy j (by simp[hj])) (fun j hj=>hE j (by simp[hj]))
  simp only[Op.eqItems,Sem.run_bind,hx i (by simp),hy i (by simp),hE i (by simp),Result.andThen_ok,List.all_cons]
  cases E i
  ·simp
  ·simpa using ih
def sameS (f g:Nat→Bool):Bool:=(List.range 16).all (fun a=>f a == g a)
def sameT (T U:Tab):Bool:=(List.range 16).all (fun b=>sameS (T b) (U b))
theorem sameS_iff {f g:Nat→Bool}:sameS f g=true↔∀a,a<16→f a=g a:=by simp[sameS]
theorem sameT_iff {T U:Tab}:sameT T U=true↔TEq T U:=by
 unfold sameT TEq
 rw[List.all_eq_true]
 constructor
 ·intro h b a hb ha
  exact sameS_iff.1 (h b (List.mem_range.2 hb)) a ha
 ·intro h b hb
  exact sameS_iff.2 (fun a ha=>h b a (List.mem_range.1 hb) ha)
theorem info_bool1 : (Tryz.prog.info? 4).map (·.size)=some 1:=by kernel_rfl
theorem info_bool : ∃i,Tryz.prog.info? 4=some i:=by
 have:=info_bool1
 cases h:Tryz.prog.info? 4 with
 | some i=>exact⟨i,rfl⟩
 | none=>rw[h] at this;cases this
theorem cells_bool : Tryz.prog.cellsOf 4=1:=by kernel_rfl
theorem cells_set : Tryz.prog.cellsOf 93=16:=by kernel_rfl
theorem part_bool (f:Nat→Bool){i:Nat}(hi:i<16)(w:World):(part 4 (rowC f).toArray (i*1)).run Tryz.prog w = .ok (.bool (f i)) w:=by
 have:=rowC_at f hi
 simp[part,Tryz.isAgg4,this]
theorem tabC_part (T:Tab){b:Nat}(hb:b<16):(tabC T).toArray.extract (b*16) (b*16+16)=(rowC (T b)).toArray:=by
 apply Array.toList_inj.1
 apply List.ext_getElem?
 intro i
 rw[Array.toList_extract,List.extract_eq_take_drop]
 simp only[List.getElem?_take,List.getElem?_drop]
 by_cases h:i<16
 ·rw[if_pos (by omega),tabC_at T (by omega),rowC_at _ h]
  have e1:(b*16+i) / 16=b:=by omega
  have e2:(b*16+i) % 16=i:=by omega
  rw[e1,e2]
 ·rw[if_neg (by omega),List.getElem?_eq_none (by rw[rowC_len];omega)]
theorem part_set (T:Tab){b:Nat}(hb:b<16)(w:World):(part 93 (tabC T).toArray (b*16)).run Tryz.prog w = .ok (setV (T b)) w:=by
 simp only[part,Sem.run_bind,Tryz.isAgg93,Result.andThen_ok,if_true,Tryz.sizeOf93,tabC_part T hb,Sem.run_pure]
 rfl
theorem info_set2 : ∃i,Tryz.prog.info? 93=some i:=by
 have:=info_set
 cases h:Tryz.prog.info? 93 with
 | some i=>exact⟨i,rfl⟩
 | none=>rw[h] at this;cases this
theorem set_equal (f g:Nat→Bool)(d:Nat)(w:World):(Op.equalIn (d+2) 93 (setV f) (setV g)).run Tryz.prog w = .ok (sameS f g) w:=by
 obtain⟨i,hi⟩:=info_bool
 unfold setV
 rw[run_equalIn_array w (d+1) _ _ Tryz.underlying93 hi,cells_bool]
 refine run_items w (d+1) _ 1 _ _ (fun a=>.bool (f a)) (fun a=>.bool (g a)) (fun a=>f a == g a) (List.range 16) (fun a ha=>part_bool f (List.mem_range.1 ha) w) (fun a ha=>part_bool g (List.mem_range.1 ha) w) (fun a _=>?_)
 exact run_equalIn_bool' w d 4 (f a) (g a) Tryz.underlying4
theorem tab_equal (T U:Tab)(d:Nat)(w:World):(Op.equalIn (d+3) 95 (tabV T) (tabV U)).run Tryz.prog w = .ok (sameT T U) w:=by
 obtain⟨i,hi⟩:=info_set2
 unfold tabV
 rw[run_equalIn_array w (d+2) _ _ Tryz.underlying95 hi,cells_set]
 exact run_items w (d+2) _ 16 _ _ (fun b=>setV (T b)) (fun b=>setV (U b)) (fun b=>sameS (T b) (U b)) (List.range 16) (fun b hb=>part_set T (List.mem_range.1 hb) w) (fun b hb=>part_set U (List.mem_range.1 hb) w) (fun b _=>set_equal (T b) (U b) d w)
theorem run_index_bool (c:Array Value)(k:Nat)(hk:k<16)(x:Bool)(h:c[k]? = some (.bool x))(w:World):(Instr.index 93 (.agg c) (.int .i64 (k:Int))).run Tryz.prog w = .ok (.bool x) w:=by
 have h2:(k:Int)<16:=by omega
 simp[Instr.index,asIntOf,Sem.run_bind,part,Tryz.isAgg4,Tryz.sizeOf4,h]
 intro hh
 omega
def listUp (f:Nat→Bool)(k:Nat):List Int:=((List.range k).filter f).map (fun(p:Nat)=>(p:Int))
theorem listUp_yes {f:Nat→Bool}{k:Nat}(h:f k=true):listUp f (k+1)=listUp f k ++ [(k:Int)]:=by simp[listUp,List.range_succ,h]
theorem listUp_not {f:Nat→Bool}{k:Nat}(h:f k=false):listUp f (k+1)=listUp f k:=by simp[listUp,List.range_succ,h]
theorem listUp_len (f:Nat→Bool)(k:Nat):(listUp f k).length≤k:=by
 unfold listUp
 rw[List.length_map]
 exact Nat.le_trans (List.length_filter_le _ _) (by simp)
set_option maxRecDepth 100000 in
set_option maxHeartbeats 2000000 in
theorem list_any (f:Nat→Bool)(w:World) :
  Calls Tryz.prog 50 #[setV f] w fun e w'=>GivesOwn w (listUp f 16) e w':=by
 obtain⟨c,hc⟩:∃c,(rowC f).toArray=c:=⟨_,rfl⟩
 have hcs:c.size=16:=by rw[←hc];simp[rowC_len]
 have HC:Hid ((rowC f).toArray=c):=hc
 unfold setV
 rw[hc]
 clear hc
 go_enter Tryz.func50,Tryz.ntmps50
 go_wp2_with (refine wpList_load_row rfl 93 _ rfl w.heap.size rfl c 93 (0,0) _ ((Below.heap_alloc _ _ _ (by simp)).trans (World.alloc_heap_new _ _)) Tryz.underlying93 rfl (by rw[hcs];exact info_set) ?_)
 have hmx:100≤maxLen:=by decide
 obtain⟨i0,hi,hz0,hz1,hz2⟩:=info_parts info_int
 go_loopw [3,8] (fun s i wr=>∃k:Nat,k≤16∧i = .int .i64 k∧OwnInts wr w.heap.size s (listUp f k)∧Below w.heap.size w wr) (fun _ i _=>(16-intOf i).toNat)
 case atStart=>exact⟨0,Nat.zero_le _,rfl,ownInts_nil (by simp) (by omega),by repeat (first | exact Below.refl _ _ | apply Below.drew | refine Below.alloc ?_ (by simp <;> omega) _ | refine Below.setCell ?_ (by simp <;> omega) _)⟩
 case round=>
  obtain⟨k,hk,rfl,ho,hB⟩:=hrel
  have HO:Hid (OwnInts wr w.heap.size u3 (listUp f k)):=ho
  have HB:Hid (Below w.heap.size w wr):=hB
  have hpl:=listUp_len f k
  clear ho hB
  by_cases hlt2:(k:Int)<16
  ·have hk16:k<16:=by omega
   obtain⟨x,hx⟩:∃x,f k=x:=⟨_,rfl⟩
   have q1:=run_index_bool c k hk16 x (by rw[←HC.out,←hx];simpa using rowC_at f hk16)
   have HX:Hid (f k=x):=hx
   clear hx
   cases x
   ·go_wp2_with fail
    go_roundw
    case rel=>exact⟨k+1,by omega,by go_num,by rw[listUp_not HX.out];exact HO.out,HB.out⟩
    case measure=>simp[intOf];omega
   ·go_wp2_with (at_builtin;refine wpList_append_own _ rfl _ _ 29 rfl w.heap.size 3 i0 (.int .i64 0) 1 8 Tryz.underlying29 hi hz0 hz1 hz2 rfl (by decide) _ _ _ rfl (World.ownsRow.alloc HO.out _) ⟨wr.heap.size,0,none⟩ 1 1 [.int .i64 (k:Int)] rfl rfl (cell_one_new _ _ _) (by simp[Value.oneCell']) (by omega) (by omega) (by have:=HB.out.size;simp;omega) ?_;intro v' wa hown' hgrow _;have HO':Hid (OwnInts wa w.heap.size v' (listUp f k ++ [(k:Int)])):=OwnInts.next hown';have HG:Hid (World.grownBy _ _ _):=hgrow;clear hown' hgrow)
    go_roundw
    case rel=>exact⟨k+1,by omega,by go_num,by rw[listUp_yes HX.out];exact HO'.out,HB.out.trans (HO.out.grown HB.out.size HG.out)⟩
    case measure=>simp[intOf];omega
  ·have hkn:k=16:=by omega
   subst hkn
   go_wp2_with fail
   go_ret
   exact⟨_,rfl,HO.out,HB.out⟩
end Go.Proofs.YtfnilamkapabkaaGreatDoor
