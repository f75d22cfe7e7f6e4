/- The program's walk from block to block: what was come to stands in a map, what was left in a list. The program's Order and Reached, over the walk. Lists of bools in memory: compared, marked, held against the marks; lists that a call has made. Reached, of the program and of the model: for each block whether one comes to it. -/
import Derived.Test.YtfnilamkapabkaaGreatDoorKDfs
import Derived.Test.YtfnilamkapabkaaGreatDoorKSeq
import Derived.Test.YtfnilamkapabkaaGreatDoorKGraph
import Derived.Maps.OwnIn
import Derived.Maps.AppendAt
import Derived.Deep.RegionLaw
import Derived.Maps.Views
import Derived.Test.YtfnilamkapabkaaGreatDoorKSh5
import Derived.Test.YtfnilamkapabkaaGreatDoorKMark
import Derived.Test.YtfnilamkapabkaaGreatDoorKOrd
namespace Go.Proofs.YtfnilamkapabkaaGreatDoor
open Go.ChangeShapes Go.WideShapes Go.ChangeAt Go.RowKit Go.Shelf
set_option linter.unusedVariables false
attribute [local go_sem] Oper.semAt_some
def SeenMap (w:World)(mb:Nat)(seen:List Nat):Prop := ∃D:DataW Unit,w.ownsMap Tryz.prog 3 unitElem mb seen.length D∧∀x:Nat,Maps.has D (.int .i64 (x:Int))=decide (x∈seen)
theorem keyed_int : Maps.Keyed Tryz.prog 3:=Maps.int_keyed Tryz.underlying3
theorem zero_unit (w:World):(zeroValue 229).run Tryz.prog w = .ok (.agg #[]) w:=by kernel_rfl
theorem wf_small {x:Nat}(h:x≤1000):(Lit.int .i64 (x:Int)).wf=true:=WalkArith.wf_i64 (by omega)
theorem seenMap_put {w:World}{mb:Nat}{seen:List Nat}{D:DataW Unit}(hm:Maps.IsMap D)(hD:∀x:Nat,Maps.has D (.int .i64 (x:Int))=decide (x∈seen))(b:Nat)
  (h:w.ownsMap Tryz.prog 3 unitElem mb (seen.length+1) (D.put (.int .i64 (b:Int)) (.agg []))):SeenMap w mb (b :: seen):=by
 refine⟨_,h,fun x=>?_⟩
 by_cases e:x=b
 ·subst e
  rw[Maps.has_put_same hm (by trivial)]
  simp
 ·rw[Maps.has_put_other (by simp;exact fun h=>e (by omega)),hD x]
  simp[e]
theorem SeenMap.kept {w w':World}{mb:Nat}{seen:List Nat}(h:SeenMap w mb seen)(hk:w'.heap[mb]? = w.heap[mb]?):SeenMap w' mb seen:=by
 obtain⟨D,⟨es,ck,h1,h2⟩,hD⟩:=h
 exact⟨D,⟨es,ck,hk.trans h1,h2⟩,hD⟩
theorem SeenMap.isMap {w:World}{mb:Nat}{seen:List Nat}(h:SeenMap w mb seen):∃es ck,w.heap[mb]? = some (.map es ck):=by
 obtain⟨D,⟨es,ck,h1,h2⟩,hD⟩:=h
 exact⟨es,ck,h1⟩
def NotInt (o:Obj):Prop := ∀c z,o≠.cells c 3 z
structure FrW (P0 mb:Nat)(w w':World):Prop where
 size:w.heap.size≤w'.heap.size
 block:∀k o,w.heap[k]? = some o→k≠P0→k≠mb→NotInt o→w'.heap[k]? = some o
theorem FrW.refl (P0 mb:Nat)(w:World):FrW P0 mb w w:=⟨Nat.le_refl _,fun _ _ h _ _ _=>h⟩
theorem FrW.trans {P0 mb:Nat}{a b c:World}(h:FrW P0 mb a b)(k:FrW P0 mb b c):FrW P0 mb a c :=
 ⟨Nat.le_trans h.size k.size,fun i o hi h1 h2 h3=>k.block i o (h.block i o hi h1 h2 h3) h1 h2 h3⟩
theorem FrW.ofBelow {P0 mb:Nat}{a b:World}(h:Below a.heap.size a b):FrW P0 mb a b :=
 ⟨h.size,fun i o hi _ _ _=>(h.block i (Array.getElem?_eq_some_iff.1 hi).1).trans hi⟩
theorem FrW.ofGrown {P0 mb:Nat}{a b:World}{row:Option Nat}(h:a.grownBy b row)(hr:∀r,row=some r→r=P0∨r=mb∨∃c z,a.heap[r]? = some (.cells c 3 z)):FrW P0 mb a b :=
 ⟨h.size,fun i o hi h1 h2 h3=>(h.block i (Array.getElem?_eq_some_iff.1 hi).1 (fun e=>by
  rcases hr i e.symm with e1 | e1 | ⟨c,z,e1⟩
  ·exact h1 e1
  ·exact h2 e1
  ·rw[hi] at e1
   cases e1
   exact h3 c z rfl)).trans hi⟩
theorem FrW.own {β:Type}{P0 mb:Nat}{w:World}{B:Nat}(hB:w.heap.size≤B):OwnFrom B (fun(_:β) W=>FrW P0 mb w W):=fun s X Y row hs hg hr=>
 ⟨Nat.le_trans hs.size hg.size,fun i o hi h1 h2 h3=>(hg.block i (Nat.lt_of_lt_of_le (Array.getElem?_eq_some_iff.1 hi).1 hs.size) (fun e=>by
  have:=(hr i e.symm).1
  have:=(Array.getElem?_eq_some_iff.1 hi).1
  omega)).trans (hs.block i o hi h1 h2 h3)⟩
theorem FrW.keepsFrom {P0 mb B:Nat}{w w':World}(h:FrW P0 mb w w')(h1:P0<B)(h2:mb<B):KeepsFrom B w w' :=
 ⟨h.size,fun k o hB hk ho=>h.block k o hk (by omega) (by omega) (fun c z e=>by rw[e] at ho;cases ho)⟩
structure WalkSt (w:World)(P0 mb lo:Nat)(x0 x1:Value)(st:Way)(lv:Value):Prop where
 box:w.heap[P0]? = some (.cells #[x0,x1,.map (some mb),lv] 88 (0,0))
 seen:SeenMap w mb st.1
 left:OwnInts w lo lv st.2
theorem WalkSt.cells {w:World}{P0 mb lo:Nat}{x0 x1:Value}{st:Way}{lv:Value}(h:WalkSt w P0 mb lo x0 x1 st lv) :
  w.cell? ⟨P0,0,none⟩=some x0∧w.cell? ⟨P0,1,none⟩=some x1∧w.cell? ⟨P0,2,none⟩=some (.map (some mb))∧w.cell? ⟨P0,3,none⟩=some lv∧w.frozen? ⟨P0,3,none⟩=false:=by
 refine⟨?_,?_,?_,?_,?_⟩ <;> simp[World.cell?,World.frozen?,h.box]
theorem WalkSt.later {w w':World}{P0 mb lo:Nat}{x0 x1:Value}{st:Way}{lv:Value}(h:WalkSt w P0 mb lo x0 x1 st lv)(hb:Below w.heap.size w w'):WalkSt w' P0 mb lo x0 x1 st lv :=
 ⟨(hb.block _ (Array.getElem?_eq_some_iff.1 h.box).1).trans h.box,h.seen.kept (by obtain⟨es,ck,e⟩:=h.seen.isMap;exact hb.block _ (Array.getElem?_eq_some_iff.1 e).1),h.left.keep hb⟩
theorem walk_own {β:Type}{P0 mb lo B:Nat}{x0 x1:Value}{g:β→Way}(hm:mb<B):OwnFrom B (fun(s:β) W=>∃lv,WalkSt W P0 mb lo x0 x1 (g s) lv):=by
 rintro s X Y row ⟨lv,h⟩ hg hr
 refine⟨lv,?_,?_,?_⟩
 ·exact(hg.block P0 (Array.getElem?_eq_some_iff.1 h.box).1 (fun e=>by
   obtain⟨_,o,ho,hc⟩:=hr P0 e.symm
   rw[h.box] at ho;cases ho;cases hc)).trans h.box
 ·refine h.seen.kept ?_
  obtain⟨es,ck,e⟩:=h.seen.isMap
  exact hg.block mb (Array.getElem?_eq_some_iff.1 e).1 (fun e2=>by have:=(hr mb e2.symm).1;omega)
 ·refine World.ownsRow.kept h.left hg ?_
  rcases h.left.2 with ⟨rfl,_⟩ | ⟨g',cap,cur,rfl,_,hgb,_⟩
  ·exact .inl rfl
  ·refine .inr fun e'=>?_
   obtain⟨_,o,ho,hc⟩:=hr g' (by simpa [Value.ownBlock] using e'.symm)
   rw[hgb] at ho;cases ho;cases hc
theorem into_mid {w w1 W0:World}{P0 mb lo:Nat}{x0 x1 lv p:Value}{T:TypeId}{st:Way}{bn:Nat}(hst:WalkSt w P0 mb lo x0 x1 st lv)(hB:Below lo W0 w)(hlo:lo≤w.heap.size)(hmb:lo≤mb)(hne:P0≠mb)
  (hg:(w.alloc (.cells #[p] T)).grownBy w1 (some mb)) (hm:SeenMap w1 mb (bn :: st.1)) :
  WalkSt w1 P0 mb lo x0 x1 (bn :: st.1,st.2) lv∧Boxed w1 w.heap.size T p∧Below lo W0 w1∧FrW P0 mb w w1:=by
 have hPl:P0<w.heap.size:=(Array.getElem?_eq_some_iff.1 hst.box).1
 obtain⟨es,ck,e⟩:=hst.seen.isMap
 have hml:mb<w.heap.size:=(Array.getElem?_eq_some_iff.1 e).1
 refine⟨⟨?_,hm,?_⟩,?_,?_,?_⟩
 ·exact(hg.block P0 (by simp;omega) (by simpa using hne)).trans ((Below.heap_alloc w _ P0 hPl).trans hst.box)
 ·refine World.ownsRow.kept (World.ownsRow.alloc hst.left _) hg ?_
  rcases hst.left.2 with ⟨rfl,_⟩ | ⟨g,cap,cur,rfl,_,hgb,_⟩
  ·exact .inl rfl
  ·refine .inr fun e'=>?_
   obtain rfl:g=mb:=by simpa [Value.ownBlock] using e'
   rw[e] at hgb
   cases hgb
 ·exact(hg.block _ (by simp) (by simp;omega)).trans (Boxed.new w T p)
 ·exact hB.trans (((Below.refl lo w).alloc hlo _).grown hg (by simp;omega) (fun j hj=>by cases hj;exact hmb))
 ·exact(FrW.ofBelow (Bel.alloc w _)).trans (FrW.ofGrown hg (fun r hr=>by cases hr;exact .inr (.inl rfl)))
theorem WalkSt.grown {W wa:World}{P0 mb lo:Nat}{x0 x1:Value}{st:Way}{lv:Value}{o:Obj}(h:WalkSt W P0 mb lo x0 x1 st lv)(hg:(W.alloc o).grownBy wa lv.ownBlock):wa.cell? ⟨P0,3,none⟩=some lv∧wa.frozen? ⟨P0,3,none⟩=false:=by
 have hPl:P0<W.heap.size:=(Array.getElem?_eq_some_iff.1 h.box).1
 have e:wa.heap[P0]? = some (.cells #[x0,x1,.map (some mb),lv] 88 (0,0)):=(hg.block P0 (by simp;omega) (h.left.not_box h.box (by decide))).trans ((Below.heap_alloc W _ P0 hPl).trans h.box)
 constructor <;> simp[World.cell?,World.frozen?,e]
theorem box_grown {W wa:World}{B lo:Nat}{T:TypeId}{p lv:Value}{l:List Int}{o:Obj}(h:Boxed W B T p)(hT:T≠3)(ho:OwnInts W lo lv l)(hg:(W.alloc o).grownBy wa lv.ownBlock):wa.cell? ⟨B,0,none⟩=some p :=
 Boxed.cell (t:=T) ((hg.block B (by have:=h.lt;simp;omega) (ho.not_box h hT)).trans ((Below.heap_alloc W _ B h.lt).trans h))
theorem WalkSt.put {W wa:World}{P0 mb lo:Nat}{x0 x1:Value}{st:Way}{lv v':Value}{b:Int}{o:Obj}(h:WalkSt W P0 mb lo x0 x1 st lv)(hg:(W.alloc o).grownBy wa lv.ownBlock)(hne:P0≠mb)
  (ho:OwnInts wa lo v' (st.2 ++ [b])):WalkSt (wa.setCell ⟨P0,3,none⟩ v') P0 mb lo x0 x1 (st.1,st.2 ++ [b]) v':=by
 have hPl:P0<W.heap.size:=(Array.getElem?_eq_some_iff.1 h.box).1
 have e:wa.heap[P0]? = some (.cells #[x0,x1,.map (some mb),lv] 88 (0,0)):=(hg.block P0 (by simp;omega) (h.left.not_box h.box (by decide))).trans ((Below.heap_alloc W _ P0 hPl).trans h.box)
 obtain⟨es,ck,em⟩:=h.seen.isMap
 have hml:mb<W.heap.size:=(Array.getElem?_eq_some_iff.1 em).1
 refine⟨?_,?_,?_⟩
 ·obtain⟨hlt,hk⟩:=Array.getElem?_eq_some_iff.1 e
  show(wa.heap.modify P0 _)[P0]? = _
  rw[Array.getElem?_eq_getElem (by rw[Array.size_modify];exact hlt),Array.getElem_modify_self,hk]
  rfl
 ·refine h.seen.kept ?_
  rw[Below.heap_setCell _ _ _ mb (by show mb≠P0;exact fun e=>hne e.symm)]
  refine(hg.block mb (by simp;omega) ?_).trans (Below.heap_alloc W _ mb hml)
  rcases h.left.2 with ⟨rfl,_⟩ | ⟨g,cap,cur,rfl,_,hgb,_⟩
  ·simp[Value.ownBlock]
  ·intro e'
   obtain rfl:mb=g:=by simpa [Value.ownBlock] using e'
   rw[em] at hgb
   cases hgb
 ·exact World.ownsRow.kept ho ⟨rfl,rfl,rfl,by simp[World.setCell],fun k _ hk=>Below.heap_setCell _ _ _ k (fun e=>hk (by rw[e]))⟩ (.inr (ho.not_box e (by decide)).symm)
theorem WalkSt.shut {W:World}{P0 mb lo D:Nat}{x0 x1:Value}{st:Way}{lv:Value}{o o':Obj}(h:WalkSt W P0 mb lo x0 x1 st lv)(hD:W.heap[D]? = some o)(ho:o.isCells=false)(hm:D≠mb):WalkSt (W.putObj D o') P0 mb lo x0 x1 st lv:=by
 refine⟨?_,h.seen.kept (World.putObj_heap_other (fun e=>hm e.symm)),ownsRow_putObj h.left _ hD ho⟩
 refine(World.putObj_heap_other (fun e=>?_)).trans h.box
 subst e
 rw[h.box] at hD
 cases hD
 cases ho
set_option maxHeartbeats 1000000 in
theorem has_any (P0 mb lo:Nat)(x0 x1:Value)(st:Way)(lv:Value)(x:Nat)(w:World)(hw:WalkSt w P0 mb lo x0 x1 st lv)(hx:x≤1000) :
  Calls Tryz.prog 154 #[.pointer (some ⟨P0,0,none⟩),.int .i64 (x:Int)] w fun e w'=>e = .returned (.bool (decide (x∈st.1)))∧Below w.heap.size w w':=by
 obtain⟨_,_,c2,_,_⟩:=hw.cells
 obtain⟨D,hown,hD⟩:=hw.seen
 have HD:Hid (∀x:Nat,Maps.has D (.int .i64 (x:Int))=decide (x∈st.1)):=hD
 have hkey:keyOf Tryz.prog 3 (.int .i64 (x:Int))=some (.int .i64 (x:Int)):=Maps.keyOf_int_mk Tryz.underlying3 (wf_small hx)
 clear hw hD
 go_enter Tryz.func154,Tryz.ntmps154
 go_wp2_with (at_lookup;refine wpList_lookup_own_unit _ rfl _ _ 86 rfl 3 229 keyed_int Tryz.underlying86 (zero_unit _) mb _ _ rfl hown _ _ rfl hkey ?_)
 go_ret
 exact⟨by rw[←HD.out x];rfl,Bel.alloc _ _⟩
def onlyNormal (K:Act→World→Prop):Exit→Act→World→Prop
 | .normal,a,w=>K a w
 | _,_,_=>False
theorem wpIn_normal {F:Fence}{n:Nat}{P:Program}{c:Code}{Q:Exit→Act→World→Prop}{a:Act}{w:World}(h:c.wpIn F n P (onlyNormal (fun a w=>Q .normal a w)) a w):c.wpIn F n P Q a w :=
 wpIn_mono h (fun e a w h=>by cases e <;> first | exact h | exact h.elim)
theorem step_append_own {P:Program}{ops:Array Oper}{o:Oper}{a:Act}{w:World}{K:Act→World→Prop}{Q:Exit→Act→World→Prop}{E:Prop}
  (hg:o.guard=none) (s x:Operand) (t:TypeId) (hop:o.op=Op.call { callee:=Callee.builtin Builtin.append,args := #[s,x],argTypes := #[t,t] })
  (base:Nat) (e:TypeId) (i:TypeInfo) (z:Value) (size bytes:Nat) (h1:P.underlying t=some (.slice e)) (h2:P.info? e=some i) (h3:i.zero=some z) (h4:i.size=size) (h5:i.bytes=bytes) (h6:z.cells.size=size) (h7:0<size)
  (v:Value) (k:Nat) (xs:List Value) (hs:a.eval s=v) (hown:w.ownsRow base e size v k xs) (ad:Addr) (m c:Nat) (news:List Value) (hx:a.eval x = .slice (some ad) m c) (hn:news.length=m*size)
  (hc:∀j u,news[j]? = some u→w.cell? (ad.add j)=some u) (h1c:∀u∈news,u.oneCell'=true) (b1:k+m≤maxLen) (b2:(k+m)*bytes≤140737488355328) (b3:base≤w.heap.size)
  (hK:∀v' w',w'.ownsRow base e size v' (k+m) (xs ++ news)→w.grownBy w' v.ownBlock→K (a.put o.dst v') w') :
  if Region.wanted o (yielded ops a.tmps)=true then Oper.wp P o a w K Q else E:=by
 have hw:Region.wanted o (yielded ops a.tmps)=true:=by simp[Region.wanted,hg]
 rw[if_pos hw]
 obtain⟨v',w',hrun,r1,r2,r3⟩:=run_append_own (P:=P) w base t o.type e i z size bytes h1 h2 h3 h4 h5 h6 h7 v k xs hown ad m c news hn hc h1c b1 b2 b3
 unfold Oper.wp
 simp[execOp,hop,resolve,invoke,builtin,hs,hx,hrun,Result.andThen]
 exact hK v' w' r1 r2
theorem leave_cnt {S:Nat→List Int}{n:Nat}(hS:∀j,∀s∈S j,0≤s∧s<(n:Int)):∀(f b:Nat) (st:Way) (M:Nat),b<n→b∉st.1→st.1.length+unseen n st.1≤M →
  (leave S f b st).1.length+unseen n (leave S f b st).1≤M
 | 0,_,st,M,_,_,h=>h
 | f+1,b,st,M,hb,hn,h=>by
  have h2:=unseen_cons hb hn
  have hf:∀(l:List Int) (s0:Way),(∀s∈l,0≤s∧s<(n:Int))→s0.1.length+unseen n s0.1≤M→(l.foldl (stepW (leave S f)) s0).1.length+unseen n (l.foldl (stepW (leave S f)) s0).1≤M:=by
   intro l
   induction l with
   | nil=>exact fun s0 _ h=>h
   | cons y l ih=>
    intro s0 hl h
    have hy:=hl y (by simp)
    refine ih _ (fun s hs=>hl s (by simp[hs])) ?_
    by_cases hin:y.toNat∈s0.1
    ·rw[stepW_in hin];exact h
    ·rw[stepW_out hin];exact leave_cnt hS f _ _ _ (by omega) hin h
  exact hf (S b) (b :: st.1,st.2) (hS b) (by show(b :: st.1).length+unseen n (b :: st.1)≤M;simp;omega)
theorem mid_cnt {S:Nat→List Int}{n:Nat}(hS:∀j,∀s∈S j,0≤s∧s<(n:Int)){f b:Nat}{st:Way}{M:Nat}(hb:b<n)(hn:b∉st.1)(h:st.1.length+unseen n st.1≤M):∀(l:List Int),(∀s∈l,0≤s∧s<(n:Int)) →
  (midW S f b st l).1.length+unseen n (midW S f b st l).1≤M:=by
 have h2:=unseen_cons hb hn
 have hf:∀(l:List Int) (s0:Way),(∀s∈l,0≤s∧s<(n:Int))→s0.1.length+unseen n s0.1≤M→(l.foldl (stepW (leave S f)) s0).1.length+unseen n (l.foldl (stepW (leave S f)) s0).1≤M:=by
  intro l
  induction l with
  | nil=>exact fun s0 _ h=>h
  | cons y l ih=>
   intro s0 hl h
   have hy:=hl y (by simp)
   refine ih _ (fun s hs=>hl s (by simp[hs])) ?_
   by_cases hin:y.toNat∈s0.1
   ·rw[stepW_in hin];exact h
   ·rw[stepW_out hin];exact leave_cnt hS f _ _ _ (by omega) hin h
 intro l hl
 exact hf l (b :: st.1,st.2) hl (by show(b :: st.1).length+unseen n (b :: st.1)≤M;simp;omega)
def GivesInto (lo P0 mb:Nat)(x0 x1:Value)(W0:World)(st:Way)(w:World)(e:Ending)(w':World):Prop :=
 (∃v,e = .returned v)∧(∃lv,WalkSt w' P0 mb lo x0 x1 st lv)∧Below lo W0 w'∧FrW P0 mb w w'
theorem into_end {w W wa W0:World}{P0 mb D B bn:Nat}{x0 x1:Value}{st:Way}{lv v':Value}{o:Obj}(h:WalkSt W P0 mb W0.heap.size x0 x1 st lv)(hg:(W.alloc o).grownBy wa lv.ownBlock)(hne:P0≠mb)(hP:W0.heap.size≤P0)(hmb:W0.heap.size≤mb)(hwB:w.heap.size≤B)(hmB:mb<B)
  (ho:OwnInts wa W0.heap.size v' (st.2 ++ [(bn:Int)])) (hB:Below W0.heap.size W0 W) (hF:FrW P0 mb w W) (hK:W.heap[D]? = some (.deferred (some []))) (hD:B≤D) :
  (wa.setCell ⟨P0,3,none⟩ v').heap[D]? = some (.deferred (some []))∧WalkSt ((wa.setCell ⟨P0,3,none⟩ v').putObj D (.deferred none)) P0 mb W0.heap.size x0 x1 (st.1,st.2 ++ [(bn:Int)]) v'∧Below W0.heap.size W0 ((wa.setCell ⟨P0,3,none⟩ v').putObj D (.deferred none))∧FrW P0 mb w ((wa.setCell ⟨P0,3,none⟩ v').putObj D (.deferred none)):=by
 have hPl:P0<W.heap.size:=(Array.getElem?_eq_some_iff.1 h.box).1
 have hDl:D<W.heap.size:=(Array.getElem?_eq_some_iff.1 hK).1
 have hDP:D≠P0:=fun e=>by subst e;rw[h.box] at hK;cases hK
 have hrow:some D≠lv.ownBlock:=by
  rcases h.left.2 with ⟨rfl,_⟩ | ⟨g,cap,cur,rfl,_,hgb,_⟩
  ·simp[Value.ownBlock]
  ·intro e'
   obtain rfl:D=g:=by simpa [Value.ownBlock] using e'
   rw[hK] at hgb
   cases hgb
 have hKa:(wa.setCell ⟨P0,3,none⟩ v').heap[D]? = some (.deferred (some [])):=by
  rw[Below.heap_setCell _ _ _ D hDP]
  exact(hg.block D (by simp;omega) hrow).trans ((Below.heap_alloc W _ D hDl).trans hK)
 have fa:FrW P0 mb W wa:=(FrW.ofBelow (Bel.alloc W o)).trans (FrW.ofGrown hg (fun r hr=>by
  rcases(h.left.keep (Bel.alloc W o)).2 with ⟨e,_⟩ | ⟨g,cap,cur,e,_,hgb,_⟩
  ·rw[e] at hr;simp[Value.ownBlock] at hr
  ·rw[e] at hr
   obtain rfl:g=r:=by simpa [Value.ownBlock] using hr
   exact .inr (.inr ⟨_,_,hgb⟩)))
 have fs:FrW P0 mb wa (wa.setCell ⟨P0,3,none⟩ v'):=FrW.ofGrown (row:=some P0) ⟨rfl,rfl,rfl,by simp[World.setCell],fun k _ hk=>Below.heap_setCell _ _ _ k (fun e=>hk (by rw[e]))⟩ (fun r hr=>by cases hr;exact .inl rfl)
 have ba:Below W0.heap.size W0 (wa.setCell ⟨P0,3,none⟩ v'):=(hB.trans (h.left.grown hB.size hg)).setCell (p:=⟨P0,3,none⟩) hP _
 refine⟨hKa,(h.put hg hne ho).shut hKa rfl (by omega),?_,?_⟩
 ·exact ba.trans (belowK_b (w:=W0) (Nat.le_refl _) _ D _ _ (by omega) hKa rfl rfl)
 ·exact(FrW.own (β:=Unit) (B:=B) hwB).putObj (s:=()) _ ((hF.trans fa).trans fs) hD hKa rfl
set_option maxRecDepth 100000 in
set_option maxHeartbeats 8000000 in
theorem into_any (F:FnD)(ba:Option Addr)(n bcap:Nat)(vals:Int)(W0:World)(P0 mb:Nat)(hF:FnAt W0 (.agg #[.slice ba n bcap,.int .i64 vals]) F)(hS:FnShape F)(hN:F.blocks.length=n)(hP:W0.heap.size≤P0)(hmb:W0.heap.size≤mb)(hne:P0≠mb):∀(f bn:Nat) (st:Way) (lv:Value) (w:World),
  Below W0.heap.size W0 w→WalkSt w P0 mb W0.heap.size (.slice ba n bcap) (.int .i64 vals) st lv→bn<n→bn∉st.1→unseen n st.1≤f→st.2.length+unseen n st.1≤16→st.1.length+unseen n st.1≤16→WayIn n st →
  Calls Tryz.prog 95 #[.pointer (some ⟨P0,0,none⟩),.int .i64 (bn:Int)] w fun e w'=>GivesInto W0.heap.size P0 mb (.slice ba n bcap) (.int .i64 vals) W0 (leave (succsN F) f bn st) w e w':=by
 have HF:Hid (FnAt W0 (.agg #[.slice ba n bcap,.int .i64 vals]) F):=hF
 have HN:Hid (F.blocks.length=n):=hN
 have h16:n≤16:=by have:=hS.2.1;omega
 have HSI:Hid (∀j,∀s∈succsN F j,0≤s∧s<(n:Int)):=by rw[←hN];exact succs_in hS
 clear hF hS hN
 intro f
 induction f with
 | zero=>
  intro bn st lv w _ _ hb hn hu
  have:=unseen_pos hb hn
  omega
 | succ f ih=>
  intro bn st lv w hB hst hb hn hu hl hcn hw
  have IH:Hid (∀(bn:Nat) (st:Way) (lv:Value) (w:World),
  Below W0.heap.size W0 w→WalkSt w P0 mb W0.heap.size (.slice ba n bcap) (.int .i64 vals) st lv→bn<n→bn∉st.1→unseen n st.1≤f→st.2.length+unseen n st.1≤16→st.1.length+unseen n st.1≤16→WayIn n st →
  Calls Tryz.prog 95 #[.pointer (some ⟨P0,0,none⟩),.int .i64 (bn:Int)] w fun e w'=>GivesInto W0.heap.size P0 mb (.slice ba n bcap) (.int .i64 vals) W0 (leave (succsN F) f bn st) w e w'):=ih
  have HB:Hid (Below W0.heap.size W0 w):=hB
  have HST:Hid (WalkSt w P0 mb W0.heap.size (.slice ba n bcap) (.int .i64 vals) st lv):=hst
  have HM:Hid (∀l:List Int,(∀s∈l,0≤s∧s<(n:Int))→unseen n (midW (succsN F) f bn st l).1≤f∧(midW (succsN F) f bn st l).2.length+unseen n (midW (succsN F) f bn st l).1+1≤16∧WayIn n (midW (succsN F) f bn st l)∧(midW (succsN F) f bn st l).1.length+unseen n (midW (succsN F) f bn st l).1≤16):=fun l hl2=>
   have hm:=mid_len HSI.out (f:=f) hb hn hl hw l hl2
   ⟨mid_unseen hb hn hu _,hm.1,hm.2,mid_cnt HSI.out hb hn hcn l hl2⟩
  have hsl:st.1.length≤16:=by omega
  have hPl:P0<w.heap.size:=(Array.getElem?_eq_some_iff.1 hst.box).1
  have hmbl:mb<w.heap.size:=by obtain⟨es,ck,e⟩:=hst.seen.isMap;exact(Array.getElem?_eq_some_iff.1 e).1
  obtain⟨c0,c1,c2,c3,cf⟩:=hst.cells
  obtain⟨D,hown,hD⟩:=hst.seen
  have HD:Hid (∀x:Nat,Maps.has D (.int .i64 (x:Int))=decide (x∈st.1)):=hD
  have hkey:keyOf Tryz.prog 3 (.int .i64 (bn:Int))=some (.int .i64 (bn:Int)):=Maps.keyOf_int_mk Tryz.underlying3 (wf_small (by omega))
  have hmx:100≤maxLen:=by decide
  have hbi:(bn:Int)<(n:Int):=by omega
  clear ih hB hst hu hl hw hD hcn
  refine(callsIn_wide (n:=3)).1 ?_
  refine callsIn_of_wp_marks Tryz.func95 rfl trivial ?_ rfl
  simp only[Tryz.ntmps95,List.size_toArray,List.length_cons,List.length_nil,Nat.reduceAdd,Nat.reduceSub,Array.replicate_succ,Array.replicate_zero,List.push_toArray,List.append_toArray,List.nil_append,List.cons_append]
  gi_wp2_with (gi_at_mapUpdate;refine wpListIn_mapUpdate_own _ rfl _ _ _ 86 rfl 3 229 keyed_int Tryz.underlying86 (unitElem (H:=Unit)) mb st.1.length _ rfl (hown.alloc _) (by omega) _ _ _ rfl rfl hkey _ [] unitElem_mk ?_;intro w1 hown1 hgrow1;obtain⟨ws1,bx1,b1,fw1⟩:=into_mid HST.out HB.out HB.out.size hmb hne hgrow1 (seenMap_put hown.isMap HD.out bn hown1);have WS1:Hid (WalkSt w1 P0 mb W0.heap.size (.slice ba n bcap) (.int .i64 vals) (bn :: st.1,st.2) lv):=ws1;have BX1:Hid (Boxed w1 w.heap.size 89 (.pointer (some ⟨P0,0,none⟩))):=bx1;have B1:Hid (Below W0.heap.size W0 w1):=b1;have FW1:Hid (FrW P0 mb w w1):=fw1;have bc1:=bx1.cell;obtain⟨d0,d1,d2,d3,df⟩:=ws1.cells;obtain⟨bb,off,x,rfl,hx,t0,t1,t2,t3⟩:=(HF.out.later b1).end (j:=bn) hb;have HX:Hid (succsN F bn=succsT x.term):=succsN_at hx;have hs1:w.heap.size+1≤w1.heap.size:=(by have h:=hgrow1.size;simp at h;omega);clear hown1 hgrow1 ws1 bx1 b1 fw1 hx hown c0 c1 c2 c3 cf hkey)
  obtain⟨xp,xl,xk,xa,xt,xe⟩:=x
  dsimp only at t0 t1 t2 t3 HX ⊢
  refine⟨trivial,?_⟩
  refine(callsIn_wide.2 (followers_any xk xa xt xe w1)).mono ?_
  rintro e wE ⟨rfl,hwE⟩
  have hsE:wE.heap.size=w1.heap.size+1:=by rw[hwE];simp
  have hBE:Below w1.heap.size w1 wE:=by rw[hwE];exact Bel.alloc _ _
  have hT:EndBox wE w1.heap.size xk xa xt xe:=by rw[hwE];exact EndBox.new _ _ _ _ _
  have WSE:Hid (WalkSt wE P0 mb W0.heap.size (.slice (some ⟨bb,off,none⟩) n bcap) (.int .i64 vals) (bn :: st.1,st.2) lv):=WS1.out.later hBE
  have BXE:Hid (Boxed wE w.heap.size 89 (.pointer (some ⟨P0,0,none⟩))):=(hBE.block _ BX1.out.lt).trans BX1.out
  have BE:Hid (Below W0.heap.size W0 wE):=B1.out.trans (hBE.mono B1.out.size)
  have FWE:Hid (FrW P0 mb w wE):=FW1.out.trans (FrW.ofBelow hBE)
  clear hwE hBE d0 d1 d2 d3 df bc1 t0 t1 t2 t3
  have hQ:∀x∈succsV xk xt xe,0≤x∧x<(n:Int):=fun x hx=>HSI.out bn x (by rw[HX.out];exact hx)
  gi_wp2_with fail
  refine wpIn_rangeFunc_ownG (α := {x:Int // 0≤x∧x<(n:Int)}) rfl (by omega) (gf:=109) (lb := #[.pointer (some ⟨w1.heap.size,0,none⟩)]) rfl trivial (enters_of Tryz.func109 (by kernel_rfl) rfl)
   (followers_stops (fun x=>0≤x∧x<(n:Int)) 2 (by omega) w1.heap.size xk xa xt xe hQ wE (by omega) hT) keepsB_t (keepsB_b (by omega)) (Below.refl _ _) (fun _=>rfl)
   (fun pre W=>EndBox W w1.heap.size xk xa xt xe∧Boxed W w.heap.size 89 (.pointer (some ⟨P0,0,none⟩))∧(∃lv,WalkSt W P0 mb W0.heap.size (.slice (some ⟨bb,off,none⟩) n bcap) (.int .i64 vals) (midW (succsN F) f bn st (pre.map (fun x=>x.1))) lv)∧Below W0.heap.size W0 W∧FrW P0 mb w W)
   (fun _ _ _=>False)
   (OwnFrom.and (Own.from (EndBox.own _ _ _ _ _) _) (OwnFrom.and (Own.from (boxed_own _ _ _) _) (OwnFrom.and (walk_own (by omega)) (OwnFrom.and (ownFrom_below (Nat.le_refl _) (by have:=BE.out.size;omega)) (FrW.own (by omega))))))
   (fun _ _ _ _ _ hs _ _=>hs)
   ⟨hT,BXE.out,⟨_,WSE.out⟩,BE.out,FWE.out⟩
   (fun x=>{ tmps := #[.pointer (some ⟨P0,0,none⟩),.int .i64 (bn:Int),.pointer (some ⟨w.heap.size,0,none⟩),undef,.int .i64 x.1,.pointer (some ⟨P0,0,none⟩),.pointer (some ⟨P0,0,none⟩),.pointer (some ⟨P0,2,none⟩),.map (some mb),.int .i64 (bn:Int),.agg #[],.pointer (some ⟨P0,0,none⟩),.pointer (some ⟨P0,0,none⟩),.pointer (some ⟨P0,0,none⟩),.pointer (some ⟨P0,0,none⟩),.slice (some ⟨bb,off,none⟩) n bcap,.int .i64 (bn:Int),.pointer (some ⟨bb,off+bn*6,none⟩),.pointer (some ⟨bb,off+bn*6+2,none⟩),.agg #[.int .i64 xk,.int .i64 xa,.int .i64 xt,.int .i64 xe],
    .func (.func 109) #[] #[.pointer (some ⟨w1.heap.size,0,none⟩)],.int .i64 x.1,undef,undef,undef,undef,undef,undef,undef,undef,undef,undef,undef,undef,undef,undef,undef,undef,undef],defers := [] }) ?assign ?body ?done ?stop
  case assign=>
   intro l x W K hK
   gi_wp2
   exact hK
  case body=>
   rintro l pre ⟨x,hx0,hx1⟩ W ⟨hE,hbx,⟨lv2,hws⟩,hB2,hF2⟩ hlt
   obtain⟨xn,rfl⟩:∃xn:Nat,x=(xn:Int):=⟨x.toNat,by omega⟩
   have HE:Hid (EndBox W w1.heap.size xk xa xt xe):=hE
   have HBX:Hid (Boxed W w.heap.size 89 (.pointer (some ⟨P0,0,none⟩))):=hbx
   have HWS:Hid (WalkSt W P0 mb W0.heap.size (.slice (some ⟨bb,off,none⟩) n bcap) (.int .i64 vals) (midW (succsN F) f bn st (pre.map (fun x=>x.1))) lv2):=hws
   have HB2:Hid (Below W0.heap.size W0 W):=hB2
   have HF2:Hid (FrW P0 mb w W):=hF2
   have HPRE:Hid (∀s∈pre.map (fun x=>x.1),0≤s∧s<(n:Int)):=fun s hs=>by
    obtain⟨y,_,rfl⟩:=List.mem_map.1 hs
    exact y.2
   have bc:=hbx.cell
   have hxn:xn<n:=by omega
   clear hE hbx hws hB2 hF2 hlt
   have HMAP:Hid (midW (succsN F) f bn st (pre.map (fun x=>x.1) ++ [(xn:Int)])=stepW (leave (succsN F) f) (midW (succsN F) f bn st (pre.map (fun x=>x.1))) (xn:Int)):=by
    exact midW_snoc _ _ _ _ _ _
   obtain⟨mst,HMS⟩:∃m,Hid (midW (succsN F) f bn st (pre.map (fun x=>x.1))=m):=⟨_,rfl⟩
   have HM2:=HM.out (pre.map (fun x=>x.1)) HPRE.out
   rw[HMS.out] at HM2
   obtain⟨m1,m2,m3,m4⟩:=HM2
   have HWS':Hid (WalkSt W P0 mb W0.heap.size (.slice (some ⟨bb,off,none⟩) n bcap) (.int .i64 vals) mst lv2):=by rw[←HMS.out];exact HWS.out
   have HMAP':Hid (midW (succsN F) f bn st (pre.map (fun x=>x.1) ++ [(xn:Int)])=stepW (leave (succsN F) f) mst (xn:Int)):=by rw[←HMS.out];exact HMAP.out
   have M1:Hid (unseen n mst.1≤f):=m1
   have M2:Hid (mst.2.length+unseen n mst.1≤16):=by show _≤_;omega
   have M3:Hid (WayIn n mst):=m3
   have M4:Hid (mst.1.length+unseen n mst.1≤16):=m4
   clear HWS HMAP m1 m2 m3 m4 HPRE HMS
   gi_wp2_with fail
   refine⟨trivial,?_⟩
   refine(CallsIn.inRound l (callsIn_wide.2 (has_any P0 mb W0.heap.size _ _ mst lv2 xn W HWS'.out (by omega)))).mono ?_
   rintro e W2 ⟨rfl,b2⟩
   have HWS2:Hid (WalkSt W2 P0 mb W0.heap.size (.slice (some ⟨bb,off,none⟩) n bcap) (.int .i64 vals) mst lv2):=HWS'.out.later b2
   have HB3:Hid (Below W0.heap.size W0 W2):=HB2.out.trans (b2.mono HB2.out.size)
   have FW2:Hid (FrW P0 mb W W2):=FrW.ofBelow b2
   have HBX2:Hid (Boxed W2 w.heap.size 89 (.pointer (some ⟨P0,0,none⟩))):=(b2.block _ HBX.out.lt).trans HBX.out
   have bc2:=HBX2.out.cell
   clear b2
   have KEEP:Hid (∀W3,FrW P0 mb W W3→KeepsFrom wE.heap.size W W3∧KeepsB w1.heap.size W W3∧EndBox W3 w1.heap.size xk xa xt xe∧Boxed W3 w.heap.size 89 (.pointer (some ⟨P0,0,none⟩))∧FrW P0 mb w W3):=fun W3 h3=>by
    have he:=h3.block _ _ HE.out (by omega) (by omega) (fun c z e=>by cases e)
    exact⟨h3.keepsFrom (by omega) (by omega),he.trans HE.out.symm,he,h3.block _ _ HBX.out (by omega) (by omega) (fun c z e=>by cases e),HF2.out.trans h3⟩
   by_cases hin:xn∈mst.1
   ·rw[decide_eq_true hin]
    have HST2:Hid (midW (succsN F) f bn st (pre.map (fun x=>x.1) ++ [(xn:Int)])=mst):=HMAP'.out.trans (stepW_in (by simpa using hin))
    gi_wp2
    obtain⟨k1,k2,k3,k4,k5⟩:=KEEP.out _ FW2.out
    refine⟨k1,k2,k3,k4,⟨lv2,?_⟩,HB3.out,k5⟩
    rw[List.map_append]
    show WalkSt _ _ _ _ _ _ (midW (succsN F) f bn st (pre.map (fun x=>x.1) ++ [(xn:Int)])) _
    rw[HST2.out]
    exact HWS2.out
   ·rw[decide_eq_false hin]
    have HST2:Hid (midW (succsN F) f bn st (pre.map (fun x=>x.1) ++ [(xn:Int)])=leave (succsN F) f xn mst):=HMAP'.out.trans (stepW_out (by simpa using hin))
    gi_wp2_with fail
    refine⟨trivial,?_⟩
    refine(CallsIn.inRound l (callsIn_wide.2 (IH.out xn mst lv2 W2 HB3.out HWS2.out hxn hin M1.out M2.out M4.out M3.out))).mono ?_
    rintro e W3 ⟨⟨v3,rfl⟩,⟨lv3,ws3⟩,b3,f3⟩
    have WS3:Hid (WalkSt W3 P0 mb W0.heap.size (.slice (some ⟨bb,off,none⟩) n bcap) (.int .i64 vals) (leave (succsN F) f xn mst) lv3):=ws3
    have B3:Hid (Below W0.heap.size W0 W3):=b3
    have FW3:Hid (FrW P0 mb W W3):=FW2.out.trans f3
    clear ws3 b3 f3
    gi_wp2
    obtain⟨k1,k2,k3,k4,k5⟩:=KEEP.out _ FW3.out
    refine⟨k1,k2,k3,k4,⟨lv3,?_⟩,B3.out,k5⟩
    rw[List.map_append]
    show WalkSt _ _ _ _ _ _ (midW (succsN F) f bn st (pre.map (fun x=>x.1) ++ [(xn:Int)])) _
    rw[HST2.out]
    exact WS3.out
  case done=>
   rintro D ys W hD hS ⟨hE,hbx,⟨lv2,hws⟩,hB2,hF2⟩ hK
   have HY:Hid (ys.map (fun x=>x.1)=succsN F bn):=by rw[HX.out];exact hS
   have HM2:=HM.out (succsN F bn) (HSI.out bn)
   rw[HY.out] at hws
   obtain⟨mst,HMS⟩:∃m,Hid (midW (succsN F) f bn st (succsN F bn)=m):=⟨_,rfl⟩
   rw[HMS.out] at hws HM2
   have HLE:Hid (leave (succsN F) (f+1) bn st=(mst.1,mst.2 ++ [(bn:Int)])):=by rw[leave_eq,HMS.out];exact(rfl:(mst.1,mst.2 ++ [(bn:Int)])=_)
   have HWS:Hid (WalkSt W P0 mb W0.heap.size (.slice (some ⟨bb,off,none⟩) n bcap) (.int .i64 vals) mst lv2):=hws
   have HB2:Hid (Below W0.heap.size W0 W):=hB2
   have HF2:Hid (FrW P0 mb w W):=hF2
   have HK:Hid (W.heap[D]? = some (.deferred (some []))):=hK
   have hol:mst.2.length≤16:=by have:=HM2.2.1;omega
   have bc:=hbx.cell
   have hPW:P0<W.heap.size:=(Array.getElem?_eq_some_iff.1 hws.box).1
   have hwW:w.heap.size<W.heap.size:=hbx.lt
   have HBXW:Hid (Boxed W w.heap.size 89 (.pointer (some ⟨P0,0,none⟩))):=hbx
   obtain⟨d0,d1,d2,d3,df⟩:=hws.cells
   obtain⟨i0,hi,hz0,hz1,hz2⟩:=info_parts info_int
   clear hE hbx hws hB2 hF2 hK hS HM2
   gi_wp2_with fail
   refine wpIn_normal ?_
   refine wpIn_wide.2 ?_
   go_region_law (refine step_append_own rfl (.tmp 33) (.tmp 35) 29 rfl W0.heap.size 3 i0 (.int .i64 0) 1 8 Tryz.underlying29 hi hz0 hz1 hz2 rfl (by decide) lv2 mst.2.length (mst.2.map (fun x=>Value.int .i64 x)) (by simp[Act.eval]) (by exact World.ownsRow.alloc HWS.out.left _) ⟨W.heap.size,0,none⟩ 1 1 [.int .i64 (bn:Int)] (by simp[Act.eval]) rfl (by exact cell_one_new _ _ _) (by simp[Value.oneCell']) (by omega) (by omega) (by have:=HB2.out.size;simp;omega) ?_;intro v' wa hown' hgrow;obtain⟨g',cap',rfl⟩:=ownsRow_succ hown';have HG:Hid ((W.alloc (.cells #[.int .i64 (bn:Int)] 3)).grownBy wa lv2.ownBlock):=⟨hgrow.os,hgrow.tape,hgrow.output,hgrow.size,hgrow.block⟩;have HO':Hid (OwnInts wa W0.heap.size (.slice (some ⟨g',0,none⟩) (mst.2.length+1) cap') (mst.2 ++ [(bn:Int)])):=OwnInts.next hown';obtain⟨e3,ef⟩:=(HWS.out.grown HG.out);have eb:=box_grown HBXW.out (by decide) HWS.out.left HG.out;clear hown' hgrow)
   all_goals
    have hend:=into_end (bn:=bn) HWS.out HG.out hne hP hmb (by omega) (by omega) HO'.out HB2.out HF2.out HK.out hD
    refine⟨by simp,.inl ⟨_,_,rfl,run_takeDeferred hend.1,?_⟩⟩
    refine⟨_,results_none rfl _ _ _,?_⟩
    have hws3:=hend.2.1
    rw[←HLE.out] at hws3
    exact⟨⟨_,rfl⟩,⟨_,hws3⟩,hend.2.2.1,hend.2.2.2⟩
  case stop=>
   rintro D c pre W _ _ h _
   exact h.elim
end Go.Proofs.YtfnilamkapabkaaGreatDoor
namespace Go.Proofs.YtfnilamkapabkaaGreatDoor
open Go.ChangeShapes Go.WideShapes Go.ChangeAt Go.RowKit Go.Shelf
set_option linter.unusedVariables false
def GivesWalk (F:FnD)(x0 x1:Value)(w:World)(e:Ending)(w':World):Prop := ∃P0 mb lv,e = .returned (.pointer (some ⟨P0,0,none⟩))∧w.heap.size≤P0∧w.heap.size≤mb∧P0≠mb∧WalkSt w' P0 mb w.heap.size x0 x1 (wayOf F) lv∧Below w.heap.size w w'
theorem into_zero (F:FnD)(ba:Option Addr)(n bcap:Nat)(vals:Int)(W0:World)(P0 mb:Nat)(hF:FnAt W0 (.agg #[.slice ba n bcap,.int .i64 vals]) F)(hS:FnShape F)(hN:F.blocks.length=n)(hP:W0.heap.size≤P0)(hmb:W0.heap.size≤mb)(hne:P0≠mb)(lv:Value)(w:World)
  (hB:Below W0.heap.size W0 w) (hw:WalkSt w P0 mb W0.heap.size (.slice ba n bcap) (.int .i64 vals) ([],[]) lv) :
  Calls Tryz.prog 95 #[.pointer (some ⟨P0,0,none⟩),.int .i64 0] w fun e w'=>GivesInto W0.heap.size P0 mb (.slice ba n bcap) (.int .i64 vals) W0 (wayOf F) w e w':=by
 have h1:1≤n:=by have:=hS.1;omega
 have h16:n≤16:=by have:=hS.2.1;omega
 have h:=into_any F ba n bcap vals W0 P0 mb hF hS hN hP hmb hne n 0 ([],[]) lv w hB hw (by omega) (by simp) (by rw[unseen_nil];omega) (by rw[unseen_nil];simp;omega) (by rw[unseen_nil];simp;omega) ⟨by simp,by simp⟩
 have e:leave (succsN F) n 0 ([],[])=wayOf F:=by rw[←hN];exact(rfl:wayOf F=wayOf F)
 rw[e] at h
 exact h
theorem wayOf_some {F:FnD}(h:FnShape F):0<(wayOf F).2.length:=by
 have h1:=h.1
 obtain⟨n,hn⟩:∃n,F.blocks.length=n+1:=⟨F.blocks.length-1,by omega⟩
 unfold wayOf
 rw[hn,leave_eq]
 simp
def revTo (L:List Int)(k:Nat):List Int:=(List.range L.length).map (fun t=>if t<k∨L.length-k≤t then L.getD (L.length-1-t) 0 else L.getD t 0)
theorem revTo_len (L:List Int)(k:Nat):(revTo L k).length=L.length:=by simp[revTo]
theorem revTo_at (L:List Int)(k:Nat){t:Nat}(h:t<L.length):(revTo L k).getD t 0=if t<k∨L.length-k≤t then L.getD (L.length-1-t) 0 else L.getD t 0:=by
 simp[revTo,List.getD,h]
theorem list_ext {A B:List Int}(hl:A.length=B.length)(h:∀t,t<A.length→A.getD t 0=B.getD t 0):A=B:=by
 apply List.ext_getElem hl
 intro t h1 h2
 have:=h t h1
 simpa [List.getD,h1,h2] using this
theorem revTo_zero (L:List Int):revTo L 0=L:=list_ext (revTo_len L 0) (fun t ht=>by
 rw[revTo_len] at ht
 rw[revTo_at L 0 ht,if_neg (by omega)])
theorem revTo_end (L:List Int){k:Nat}(h:L.length≤k+k+1)(hk:k≤L.length):revTo L k=L.reverse:=list_ext (by rw[revTo_len,List.length_reverse]) (fun t ht=>by
 rw[revTo_len] at ht
 rw[revTo_at L k ht]
 have e:L.reverse.getD t 0=L.getD (L.length-1-t) 0:=by
  have h2:L.length-1-t<L.length:=by omega
  simp[List.getD,ht,h2]
 rw[e]
 split
 ·rfl
 ·have:L.length-1-t=t:=by omega
  rw[this])
theorem revTo_step (L:List Int){k:Nat}(h:k+k+1<L.length):((revTo L k).set k (L.getD (L.length-1-k) 0)).set (L.length-1-k) (L.getD k 0)=revTo L (k+1):=list_ext (by simp[revTo_len]) (fun t ht=>by
 have ht2:t<L.length:=by simpa [revTo_len] using ht
 rw[revTo_at L (k+1) ht2]
 have e0:=revTo_at L k ht2
 by_cases e:t=L.length-1-k
 ·subst e
  have e2:L.length-1-(L.length-1-k)=k:=by omega
  rw[if_pos (by omega),e2]
  simp[List.getD,revTo_len,ht2]
 ·by_cases e3:t=k
  ·subst e3
   rw[if_pos (by omega)]
   have e4:¬L.length-1-t=t:=by omega
   simp[List.getD,revTo_len,ht2,e4]
  ·have e5:¬L.length-1-k=t:=fun h=>e h.symm
   have e6:¬k=t:=fun h=>e3 h.symm
   have e7:(((revTo L k).set k (L.getD (L.length-1-k) 0)).set (L.length-1-k) (L.getD k 0)).getD t 0=(revTo L k).getD t 0:=by
    simp only[List.getD,List.getElem?_set,e5,e6,if_false]
   rw[e7,e0]
   by_cases e8:t<k∨L.length-k≤t
   ·rw[if_pos e8,if_pos (by omega)]
   ·rw[if_neg e8,if_neg (by omega)])
set_option maxHeartbeats 4000000 in
theorem reverse_any (lo:Nat)(v:Value)(L:List Int)(w:World)(h:OwnInts w lo v L)(hlo:lo≤w.heap.size)(h0:0<L.length)(h100:L.length≤100) :
  Calls Tryz.prog 48 #[v] w fun e w'=>(∃r,e = .returned r)∧OwnInts w' lo v L.reverse∧Below lo w w':=by
 obtain⟨m,HM⟩:∃m,Hid (L.length=m):=⟨_,rfl⟩
 rw[HM.out] at h0 h100
 rcases h.2 with ⟨_,e⟩ | ⟨g,cap,cur,rfl,hg,_⟩
 ·have:=HM.out;omega
 rw[HM.out] at h ⊢
 have HO:Hid (OwnInts w lo (.slice (some ⟨g,0,none⟩) m cap) L):=h
 clear h
 go_enter Tryz.func48,Tryz.ntmps48
 go_wp2
 go_loopw [2,3] (fun i j wr=>∃(k:Nat) (z:Int),k≤m∧k≤(m+1) / 2∧i = .int .i64 (k:Int)∧j = .int .i64 z∧z=(m:Int)-1-k∧OwnInts wr lo (.slice (some ⟨g,0,none⟩) m cap) (revTo L k)∧Below lo w wr) (fun i _ _=>m-(intOf i).toNat)
 case atStart=>exact⟨0,(m:Int)-1,by omega,by omega,rfl,by go_num,by omega,by rw[revTo_zero];exact HO.out,Below.refl _ _⟩
 case round=>
  obtain⟨k,z,hk,hk2,rfl,rfl,hz,ho,hb⟩:=hrel
  have H1:Hid (OwnInts wr lo (.slice (some ⟨g,0,none⟩) m cap) (revTo L k)):=ho
  have H2:Hid (Below lo w wr):=hb
  clear ho hb
  by_cases hlt:(k:Int)<z
  ·obtain⟨j,rfl⟩:∃j:Nat,z=(j:Int):=⟨z.toNat,by omega⟩
   have HJ:Hid (m-1-k=j):=by show _=_;omega
   have hjm:(j:Int)<(m:Int):=by omega
   have hkm:(k:Int)<(m:Int):=by omega
   obtain⟨ra,rcap,hra,hrc⟩:=H1.out.row
   rw[revTo_len,HM.out] at hra hrc
   obtain⟨g',e,_,_,hcell,hfz⟩:=hrc h0
   simp only[Value.slice.injEq] at hra
   obtain⟨hra1,_,_⟩:=hra
   rw[e] at hra1
   simp at hra1
   subst hra1
   have q1:=hcell k (by omega)
   have q2:=hcell j (by omega)
   rw[revTo_at L k (by rw[HM.out];omega),if_neg (by rw[HM.out];omega)] at q1
   rw[revTo_at L k (by rw[HM.out];omega),if_neg (by rw[HM.out];omega)] at q2
   obtain⟨x,HX⟩:∃x,Hid (L.getD k 0=x):=⟨_,rfl⟩
   obtain⟨y,HY⟩:∃y,Hid (L.getD j 0=y):=⟨_,rfl⟩
   rw[HX.out] at q1
   rw[HY.out] at q2
   have f1:=hfz k
   have f2:=hfz j
   clear hcell hfz hrc hz e
   have HW:Hid (OwnInts ((wr.setCell ⟨g,k,none⟩ (.int .i64 y)).setCell ⟨g,j,none⟩ (.int .i64 x)) lo (.slice (some ⟨g,0,none⟩) m cap) (revTo L (k+1))∧Below lo w ((wr.setCell ⟨g,k,none⟩ (.int .i64 y)).setCell ⟨g,j,none⟩ (.int .i64 x))):=by
    refine⟨?_,(H2.out.setCell (p:=⟨g,k,none⟩) hg _).setCell (p:=⟨g,j,none⟩) hg _⟩
    have h:=H1.out
    unfold OwnInts at h ⊢
    rw[revTo_len,HM.out] at h ⊢
    have h2:=(World.ownsRow.stored (World.ownsRow.stored h k (.int .i64 y)).1 j (.int .i64 x)).1
    have e:=revTo_step L (k:=k) (by have:=HJ.out;rw[HM.out];omega)
    rw[HM.out,HJ.out,HX.out,HY.out] at e
    rw[←e,List.map_set,List.map_set]
    exact h2
   have HK:Hid (k+1≤m∧k+1≤(m+1) / 2∧(j:Int)-1=(m:Int)-1-((k+1:Nat):Int)):=by have:=HJ.out;show _∧_∧_;omega
   go_wp2
   go_region
   all_goals
    go_wp2
    go_roundw
    case rel=>exact⟨k+1,(j:Int)-1,HK.out.1,HK.out.2.1,by go_num,by go_num,HK.out.2.2,HW.out.1,HW.out.2.drew⟩
    case measure=>simp[intOf];omega
  ·have hkm:m≤k+k+1:=by omega
   clear hz
   go_wp2
   go_end0
   refine⟨⟨_,rfl⟩,?_,H2.out⟩
   have h:=H1.out
   rw[revTo_end L (by rw[HM.out];exact hkm) (by rw[HM.out];exact hk)] at h
   exact h
set_option maxHeartbeats 2000000 in
theorem walkAll_any (F:FnD)(ba:Option Addr)(n bcap:Nat)(vals:Int)(w:World)(hF:FnAt w (.agg #[.slice ba n bcap,.int .i64 vals]) F)(hS:FnShape F)(hN:F.blocks.length=n) :
  Calls Tryz.prog 47 #[.agg #[.slice ba n bcap,.int .i64 vals]] w fun e w'=>GivesWalk F (.slice ba n bcap) (.int .i64 vals) w e w':=by
 have HF:Hid (FnAt w (.agg #[.slice ba n bcap,.int .i64 vals]) F):=hF
 have HS:Hid (FnShape F):=hS
 have HN:Hid (F.blocks.length=n):=hN
 have h1:1≤n:=by have:=hS.1;omega
 have h16:n≤16:=by have:=hS.2.1;omega
 have hmm:=@run_makeMap Tryz.prog
 clear hF hS hN
 go_enter Tryz.func47,Tryz.ntmps47
 go_wp2_with fail
 obtain⟨wI,hwI⟩:∃wI,((w.alloc (.cells #[.slice ba n bcap,.int .i64 vals] 26)).alloc (.map #[] 0)).alloc (.cells #[.slice ba n bcap,.int .i64 vals,.map (some (w.heap.size+1)),.slice none 0 0] 88)=wI:=⟨_,rfl⟩
 have BI:Hid (Below w.heap.size w wI):=by rw[←hwI];repeat (first | exact Below.refl _ _ | apply Below.drew | refine Below.alloc ?_ (by simp <;> omega) _ | refine Below.setCell ?_ (by simp <;> omega) _)
 have WI:Hid (WalkSt wI (w.heap.size+1+1) (w.heap.size+1) w.heap.size (.slice ba n bcap) (.int .i64 vals) ([],[]) (.slice none 0 0)):=by
  rw[←hwI]
  refine WalkSt.mk ?_ ⟨.map [],?_,fun x=>by simp[Maps.has]⟩ ⟨rfl,.inl ⟨rfl,rfl⟩⟩
  ·have h:=World.alloc_heap_new ((w.alloc (.cells #[.slice ba n bcap,.int .i64 vals] 26)).alloc (.map #[] 0)) (.cells #[.slice ba n bcap,.int .i64 vals,.map (some (w.heap.size+1)),.slice none 0 0] 88)
   rw[World.size_alloc,World.size_alloc] at h
   exact h
  ·have h:=World.ownsMap_made (w.alloc (.cells #[.slice ba n bcap,.int .i64 vals] 26)) Tryz.prog 3 (unitElem (H:=Unit))
   rw[World.size_alloc] at h
   exact h.alloc _
 try rw[hwI]
 clear hwI hmm
 refine(into_zero F ba n bcap vals w (w.heap.size+1+1) (w.heap.size+1) HF.out HS.out HN.out (by omega) (by omega) (by omega) _ wI BI.out WI.out).mono ?_
 rintro e w2 ⟨⟨v2,rfl⟩,⟨lv2,ws2⟩,b2,_⟩
 have WS2:Hid (WalkSt w2 (w.heap.size+1+1) (w.heap.size+1) w.heap.size (.slice ba n bcap) (.int .i64 vals) (wayOf F) lv2):=ws2
 have B2:Hid (Below w.heap.size w w2):=b2
 clear ws2 b2
 go_wp2_with fail
 go_ret
 exact⟨_,_,_,rfl,by omega,by omega,by omega,WS2.out,B2.out⟩
set_option maxHeartbeats 2000000 in
theorem impl_order (v:Value)(F:FnD)(w:World)(hF:FnAt w v F) :
  Calls Tryz.prog 13 #[v] w fun e w'=>GivesOwn w (orderOf F) e w':=by
 have HF:Hid (FnAt w v F):=hF
 obtain⟨n,HN⟩:∃n,Hid (F.blocks.length=n):=⟨_,rfl⟩
 obtain⟨vals,HV⟩:∃x,Hid (F.values=x):=⟨_,rfl⟩
 obtain⟨ba,bcap,rfl⟩:=hF.out HN.out HV.out
 clear hF
 go_enter Tryz.func13,Tryz.ntmps13
 go_wp2_with fail
 refine(impl_shapeOk _ F _ (HF.out.later (by repeat (first | exact Below.refl _ _ | apply Below.drew | refine Below.alloc ?_ (by simp <;> omega) _ | refine Below.setCell ?_ (by simp <;> omega) _)))).mono ?_
 rintro e w1 ⟨s1,rfl,hs1,b1⟩
 have S1:Hid (s1=true↔FnShape F):=hs1
 have B1:Hid (Below w.heap.size w w1):=Bel.after (by repeat (first | exact Below.refl _ _ | apply Below.drew | refine Below.alloc ?_ (by simp <;> omega) _ | refine Below.setCell ?_ (by simp <;> omega) _)) b1
 have c0:w1.cell? ⟨w.heap.size,0,none⟩=some (.slice ba n bcap):=Bel.keeps b1 (by simp[go_sem])
 have c1:w1.cell? ⟨w.heap.size,1,none⟩=some (.int .i64 vals):=Bel.keeps b1 (by simp[go_sem])
 clear b1 hs1
 cases s1 with
 | false=>
  have HE:Hid (orderOf F = []):=orderOf_no (fun h=>by have:=S1.out.2 h;cases this)
  go_wp2_with fail
  go_ret
  rw[HE.out]
  exact⟨_,rfl,ownInts_nil rfl B1.out.size,Bel.after B1.out (by repeat (first | exact Below.refl _ _ | apply Below.drew | refine Below.alloc ?_ (by simp <;> omega) _ | refine Below.setCell ?_ (by simp <;> omega) _))⟩
 | true=>
  have hyes:Hid (FnShape F):=S1.out.1 rfl
  have HE:Hid (orderOf F=(wayOf F).2.reverse):=orderOf_yes hyes.out
  go_wp2_with fail
  refine(walkAll_any F ba n bcap vals _ (HF.out.later B1.out) hyes.out HN.out).mono ?_
  rintro e w2 ⟨P0,mb,lv,rfl,hP,hm,hne,ws,b2⟩
  have WS:Hid (WalkSt w2 P0 mb w1.heap.size (.slice ba n bcap) (.int .i64 vals) (wayOf F) lv):=ws
  have B2:Hid (Below w1.heap.size w1 w2):=b2
  obtain⟨_,_,_,d3,_⟩:=ws.cells
  obtain⟨la,lcap,hlv,_⟩:=ws.left.row
  obtain⟨ln,HLN⟩:∃ln,Hid ((wayOf F).2.length=ln):=⟨_,rfl⟩
  rw[HLN.out] at hlv
  subst hlv
  clear ws b2 c0 c1
  go_wp2_with fail
  refine(reverse_any w1.heap.size _ (wayOf F).2 _ WS.out.left B2.out.size (wayOf_some hyes.out) (by have h1:=(wayOf_len hyes.out).1;have h2:=hyes.out.2.1;omega)).mono ?_
  rintro e w3 ⟨⟨r,rfl⟩,o3,b3⟩
  have O3:Hid (OwnInts w3 w1.heap.size (.slice la ln lcap) (wayOf F).2.reverse):=o3
  have B3:Hid (Below w1.heap.size w2 w3):=b3
  clear o3 b3 d3
  go_wp2_with fail
  go_ret
  rw[HE.out]
  exact⟨_,rfl,O3.out.low B1.out.size,Bel.after B1.out (B2.out.trans B3.out)⟩
end Go.Proofs.YtfnilamkapabkaaGreatDoor
namespace Go.Proofs.YtfnilamkapabkaaGreatDoor
open Go.ChangeShapes Go.WideShapes Go.ChangeAt Go.RowKit Go.Shelf
set_option linter.unusedVariables false
def BoolsAt (w:World)(v:Value)(l:List Bool):Prop :=
 ∃(a:Option Addr) (cap:Nat),v = .slice a l.length cap∧l.length≤9223372036854775807∧(0<l.length→∃b off,a=some ⟨b,off,none⟩∧∀i,i<l.length→w.cell? ⟨b,off+i,none⟩=some (.bool (l.getD i false)))
theorem BoolsAt.keep {w w':World}{v:Value}{l:List Bool}(h:BoolsAt w v l)(hb:Below w.heap.size w w'):BoolsAt w' v l:=by
 obtain⟨a,cap,rfl,hm,hc⟩:=h
 refine⟨a,cap,rfl,hm,fun hp=>?_⟩
 obtain⟨b,off,rfl,hd⟩:=hc hp
 exact⟨b,off,rfl,fun i hi=>Bel.keeps hb (hd i hi)⟩
def OwnBools (w:World)(lo:Nat)(v:Value)(l:List Bool):Prop:=w.ownsRow lo 4 1 v l.length (l.map (fun x=>Value.bool x))
theorem OwnBools.small {w:World}{lo:Nat}{v:Value}{l:List Bool}(h:OwnBools w lo v l):l.length≤maxLen:=by
 rcases h.2 with ⟨_,h0⟩ | ⟨g,cap,cur,_,_,_,h1,h2,_⟩
 ·rw[h0];exact Nat.zero_le _
 ·omega
theorem OwnBools.row {w:World}{lo:Nat}{v:Value}{l:List Bool}(h:OwnBools w lo v l) :
  ∃a cap,v = .slice a l.length cap∧(0<l.length→∃g,a=some ⟨g,0,none⟩∧lo≤g∧g<w.heap.size∧(∀i,i<l.length→w.cell? ⟨g,i,none⟩=some (.bool (l.getD i false)))∧∀i,w.frozen? ⟨g,i,none⟩=false):=by
 rcases h.2 with ⟨rfl,h0⟩ | ⟨g,cap,cur,rfl,hlo,hg,h1,h2,h3,h4⟩
 ·exact⟨none,0,by rw[h0],fun hp=>absurd hp (by omega)⟩
 ·refine⟨_,cap,rfl,fun hp=>⟨g,rfl,hlo,(Array.getElem?_eq_some_iff.1 hg).1,fun i hi=>?_,fun i=>?_⟩⟩
  ·have hs:i<cur.size:=by omega
   have e:cur[i]? = some (.bool (l.getD i false)):=by
    have e1:(cur.toList.take (l.length*1))[i]? = cur[i]?:=by rw[List.getElem?_take];simp[hi]
    rw[←e1,h4,List.getElem?_map]
    simp[List.getD,hi]
   simp[World.cell?,hg,e]
  ·simp[World.frozen?,hg]
theorem OwnBools.at {w:World}{lo:Nat}{v:Value}{l:List Bool}(h:OwnBools w lo v l):BoolsAt w v l:=by
 have hs:=h.small
 obtain⟨a,cap,rfl,hc⟩:=h.row
 refine ⟨a, cap, rfl, by have : maxLen ≤ 9223372036854775807 := by decide
                         omega,fun hp=>?_⟩
 obtain⟨g,rfl,_,_,hd,_⟩:=hc hp
 exact⟨g,0,rfl,fun i hi=>by simpa using hd i hi⟩
theorem ownsRow_laterB {w w':World}{lo:Nat}{e:TypeId}{s:Nat}{v:Value}{k:Nat}{xs:List Value}(h:w.ownsRow lo e s v k xs)(hb:Below w.heap.size w w'):w'.ownsRow lo e s v k xs:=by
 obtain⟨h0,h1⟩:=h
 refine⟨h0,?_⟩
 rcases h1 with h1 | ⟨g,cap,cur,rfl,hlo,hg,h2⟩
 ·exact .inl h1
 ·exact .inr ⟨g,cap,cur,rfl,hlo,(hb.block g (Array.getElem?_eq_some_iff.1 hg).1).trans hg,h2⟩
theorem OwnBools.keep {w w':World}{lo:Nat}{v:Value}{l:List Bool}(h:OwnBools w lo v l)(hb:Below w.heap.size w w'):OwnBools w' lo v l:=ownsRow_laterB h hb
theorem ownsRow_lowB {w:World}{lo lo':Nat}{e:TypeId}{s:Nat}{v:Value}{k:Nat}{xs:List Value}(h:w.ownsRow lo e s v k xs)(hl:lo'≤lo):w.ownsRow lo' e s v k xs:=by
 obtain⟨h0,h1⟩:=h
 refine⟨h0,?_⟩
 rcases h1 with h1 | ⟨g,cap,cur,rfl,hlo,h2⟩
 ·exact .inl h1
 ·exact .inr ⟨g,cap,cur,rfl,Nat.le_trans hl hlo,h2⟩
theorem OwnBools.low {w:World}{lo lo':Nat}{v:Value}{l:List Bool}(h:OwnBools w lo v l)(hl:lo'≤lo):OwnBools w lo' v l:=ownsRow_lowB h hl
theorem BoolsAt.under {w w':World}{v:Value}{l:List Bool}(h:BoolsAt w v l){lo:Nat}(hb:Below lo w w')(hv:∀a,v.ownBlock=some a→a<lo):BoolsAt w' v l:=by
 obtain⟨a,cap,rfl,hm,hc⟩:=h
 refine⟨a,cap,rfl,hm,fun hp=>?_⟩
 obtain⟨b,off,rfl,hd⟩:=hc hp
 exact⟨b,off,rfl,fun i hi=>by rw[hb.cell (p:=⟨b,off+i,none⟩) (hv b rfl)];exact hd i hi⟩
theorem OwnBools.lt {w:World}{b:Nat}{v:Value}{l:List Bool}(h:OwnBools w b v l):∀g,v.ownBlock=some g→b≤g∧g<w.heap.size:=World.ownsRow.lt h
end Go.Proofs.YtfnilamkapabkaaGreatDoor
namespace Go.Proofs.YtfnilamkapabkaaGreatDoor
open Go.ChangeShapes Go.WideShapes Go.ChangeAt Go.RowKit Go.Shelf
set_option linter.unusedVariables false
theorem SeenRow.own {w:World}{g n lo:Nat}{S:List Nat}(h:SeenRow w g n S)(hlo:lo≤g)(hn:n≤100):OwnBools w lo (.slice (some ⟨g,0,none⟩) n n) ((List.range n).map (fun i=>decide (i∈S))):=by
 refine⟨by simp,.inr ⟨g,n,seenCells n S,by simp,hlo,h,by simp,Nat.le_trans hn (by decide),by simp[seenCells],?_⟩⟩
 simp[seenCells]
 rw[List.take_of_length_le (by simp)]
 simp
theorem WalkSt.aside {w w':World}{P0 mb lo g:Nat}{x0 x1:Value}{st:Way}{lv:Value}{n:Nat}{S:List Nat}(h:WalkSt w P0 mb lo x0 x1 st lv)(hs:SeenRow w g n S)(hg:w.grownBy w' (some g)):WalkSt w' P0 mb lo x0 x1 st lv:=by
 refine⟨(hg.block P0 (Array.getElem?_eq_some_iff.1 h.box).1 (fun e=>?_)).trans h.box,?_,World.ownsRow.kept h.left hg (.inr (hs.not_row h.left).symm)⟩
 ·obtain rfl:P0=g:=by simpa using e
  have:=h.box.symm.trans hs
  simp at this
 ·obtain⟨es,ck,e⟩:=h.seen.isMap
  refine h.seen.kept (hg.block mb (Array.getElem?_eq_some_iff.1 e).1 (fun e2=>?_))
  obtain rfl:mb=g:=by simpa using e2
  have:=e.symm.trans hs
  simp at this
end Go.Proofs.YtfnilamkapabkaaGreatDoor
