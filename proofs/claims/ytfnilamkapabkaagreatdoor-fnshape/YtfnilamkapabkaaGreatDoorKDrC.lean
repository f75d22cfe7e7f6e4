/- The draw: the end of the last block: a region that draws its order. The draw: a program that is well, in memory. What the draw has made reads as a program. The draw: regions that turn an end or a place of what was made. The draw: regions that turn the phis of what was made. The draw: a phi without arms is put behind the phis of a block. -/
import Derived.Test.YtfnilamkapabkaaGreatDoorKDrB
import Derived.Test.YtfnilamkapabkaaGreatDoorKDrA
import Derived.Test.YtfnilamkapabkaaGreatDoorKIns
namespace Go.Proofs.YtfnilamkapabkaaGreatDoor
open Go.ChangeShapes Go.WideShapes Go.ChangeAt Go.RowKit
set_option linter.unusedVariables false
theorem run_field_block2 (G o:Nat)(W:World):(Instr.fieldAt 44 (.pointer (some ⟨G,o,none⟩)) 2).run Tryz.prog W = .ok (.pointer (some ⟨G,o+2,none⟩)) W:=by kernel_rfl
theorem run_buildTerm {o:Oper}{a:Act}{x:Operand}{z:Int}(ho:o.op = .build 42 #[(0,.const (.int .i64 3)),(1,x)])(hx:a.eval x = .int .i64 z)(w:World):(execOp a.eval o).run Tryz.prog w = .ok (.value (.agg #[.int .i64 3,.int .i64 z,.int .i64 0,.int .i64 0])) w:=by
 have h:(Instr.build 42 #[(0,.int .i64 3),(1,.int .i64 z)]).run Tryz.prog w = .ok (.agg #[.int .i64 3,.int .i64 z,.int .i64 0,.int .i64 0]) w:=by kernel_rfl
 have h0:a.eval (.const (.int .i64 3)) = .int .i64 3:=rfl
 simp[execOp,ho,hx,h0,h]
theorem run_store_term {w:World}{g j:Nat}{u2 u3 u4 u5:Value}(q2:w.cell? ⟨g,j+2,none⟩=some u2)(q3:w.cell? ⟨g,j+3,none⟩=some u3)(q4:w.cell? ⟨g,j+4,none⟩=some u4)(q5:w.cell? ⟨g,j+5,none⟩=some u5)
  (r2:w.frozen? ⟨g,j+2,none⟩=false) (r3:w.frozen? ⟨g,j+3,none⟩=false) (r4:w.frozen? ⟨g,j+4,none⟩=false) (r5:w.frozen? ⟨g,j+5,none⟩=false) (k a t e:Int) :
  (Instr.storeAt 42 (.pointer (some ⟨g,j+2,none⟩)) (.agg #[.int .i64 k,.int .i64 a,.int .i64 t,.int .i64 e])).run Tryz.prog w = .ok () ((((w.setCell ⟨g,j+2,none⟩ (.int .i64 k)).setCell ⟨g,j+3,none⟩ (.int .i64 a)).setCell ⟨g,j+4,none⟩ (.int .i64 t)).setCell ⟨g,j+5,none⟩ (.int .i64 e)):=by
 simp[Instr.storeAt,Instr.sureAddr,go_sem,q2,q3,q4,q5,r2,r3,r4,r5]
def ops_rightBody : Array Oper := #[⟨some 28,.move (.tmp 3),212,"l02_fn.go:282",#[],none⟩,⟨some 29,.nilCheck (.tmp 28),0,"l02_fn.go:282",#[⟨0,.data⟩],none⟩,⟨some 30,.fieldAddr 214 (.tmp 29) 1,0,"l02_fn.go:282",#[⟨1,.data⟩],none⟩,⟨some 31,.fieldAddr 26 (.tmp 30) 0,0,"l02_fn.go:282",#[⟨2,.data⟩],none⟩,⟨some 32,.load 24 (.tmp 31),24,"l02_fn.go:282",#[⟨3,.data⟩],none⟩,⟨some 33,.move (.tmp 6),3,"l02_fn.go:282",#[],none⟩,⟨some 34,.move (.tmp 3),212,"l02_fn.go:282",#[],none⟩,⟨some 35,.move (.tmp 7),29,"l02_fn.go:282",#[],none⟩,⟨some 36,.call ⟨.value (.func 143),#[.tmp 34,.tmp 35],#[212,29]⟩,3,"l02_fn.go:282",#[⟨6,.data⟩,⟨7,.data⟩],none⟩,⟨some 37,.build 42 #[(0,.const (.int .i64 3)),(1,.tmp 36)],42,"l02_fn.go:282",#[⟨8,.data⟩],none⟩,⟨some 38,.indexAddr 24 (.tmp 32) (.tmp 33),0,"l02_fn.go:282",#[⟨4,.data⟩,⟨5,.data⟩,⟨0,.phase⟩,⟨1,.phase⟩,⟨2,.phase⟩,⟨3,.phase⟩,⟨4,.phase⟩,⟨5,.phase⟩,⟨6,.phase⟩,⟨7,.phase⟩,⟨8,.phase⟩,⟨9,.phase⟩],none⟩,⟨some 39,.fieldAddr 44 (.tmp 38) 2,0,"l02_fn.go:282",#[⟨10,.data⟩,⟨0,.phase⟩,⟨1,.phase⟩,⟨2,.phase⟩,⟨3,.phase⟩,⟨4,.phase⟩,⟨5,.phase⟩,⟨6,.phase⟩,⟨7,.phase⟩,⟨8,.phase⟩,⟨9,.phase⟩],none⟩,⟨none,.store 42 (.tmp 39) (.tmp 37),0,"l02_fn.go:282",#[⟨11,.data⟩,⟨9,.data⟩,⟨8,.chain⟩,⟨0,.phase⟩,⟨1,.phase⟩,⟨2,.phase⟩,⟨3,.phase⟩,⟨4,.phase⟩,⟨5,.phase⟩,⟨6,.phase⟩,⟨7,.phase⟩,⟨8,.phase⟩,⟨9,.phase⟩],none⟩]
def TL_rightBody (C lo G g n cap en:Nat)(KV:Value)(w0:World):List (Value→World→Prop) := [(fun v w=>v = .pointer (some ⟨G,0,none⟩)),(fun v w=>v = .pointer (some ⟨G,0,none⟩)),(fun v w=>v = .pointer (some ⟨G,1,none⟩)),(fun v w=>v = .pointer (some ⟨G,1,none⟩)),(fun v w=>v = .slice (some ⟨g,0,none⟩) n cap),(fun v w=>v = .int .i64 (en:Int)),(fun v w=>v = .pointer (some ⟨G,0,none⟩)),(fun v w=>v=KV),(fun v w=>∃z:Int,v = .int .i64 z),(fun v w=>∃z:Int,v = .agg #[.int .i64 3,.int .i64 z,.int .i64 0,.int .i64 0]),(fun v w=>v = .pointer (some ⟨g,en*6,none⟩)),(fun v w=>v = .pointer (some ⟨g,en*6+2,none⟩))]
def TT_rightBody (C lo G g n cap en:Nat)(KV:Value)(w0:World)(j:Nat)(v:Value)(w:World):Prop:=((TL_rightBody C lo G g n cap en KV w0).getD j (fun _ _=>True)) v w
theorem ops_rightBody_acyc : ∀(i:Nat) (o:Oper),ops_rightBody[i]? = some o→∀e∈o.after,e.on<i:=by
 have h:(List.range 13).all (fun i=>match ops_rightBody[i]? with | some o=>o.after.all (fun e=>decide (e.on<i)) | none=>true)=true:=by kernel_rfl
 intro i o ho e he
 have hi:i<13:=(Array.getElem?_eq_some_iff.1 ho).1
 have:=List.all_eq_true.1 h i (List.mem_range.2 hi)
 rw[ho] at this
 simp only[Array.all_eq_true'] at this
 simpa using this e he
theorem ops_rightBody_plain : ∀(i:Nat) (o:Oper),ops_rightBody[i]? = some o→o.guard=none:=by
 have h:(List.range 13).all (fun i=>match ops_rightBody[i]? with | some o=>o.guard.isNone | none=>true)=true:=by kernel_rfl
 intro i o ho
 have hi:i<13:=(Array.getElem?_eq_some_iff.1 ho).1
 have:=List.all_eq_true.1 h i (List.mem_range.2 hi)
 rw[ho] at this
 simpa using this
theorem ops_rightBody_all : ∀li:Array Bool,Closed .any ops_rightBody li→(∀o,ops_rightBody[12]? = some o→∀e∈o.after,Region.binds .any e=true→li.getD e.on false=true)→∀j,j<12→li.getD j false=true:=by
 intro li hc hl
 have hlast:∀i,waitsFor .any ops_rightBody 12 i=true→li.getD i false=true:=fun i hi=>by
  obtain⟨e,he,hb,h2⟩:=waitsFor_spec hi (Array.getElem?_eq_getElem (by decide:12<ops_rightBody.size))
  rw[←h2]
  exact hl _ (Array.getElem?_eq_getElem (by decide:12<ops_rightBody.size)) e he hb
 have hback:∀j i,j<12→li.getD j false=true→waitsFor .any ops_rightBody j i=true→li.getD i false=true:=fun j i hj hjl hi=>by
  have hjs:j<ops_rightBody.size:=by show j<13;omega
  obtain⟨e,he,hb,h2⟩:=waitsFor_spec hi (Array.getElem?_eq_getElem hjs)
  rw[←h2]
  exact hc j _ (Array.getElem?_eq_getElem hjs) hjl e he hb
 have hone:∀i,i<12→(waitsFor .any ops_rightBody 12 i=true∨(∃k,k<12∧waitsFor .any ops_rightBody 12 k=true∧waitsFor .any ops_rightBody k i=true)∨∃k m,k<12∧m<12∧waitsFor .any ops_rightBody 12 m=true∧waitsFor .any ops_rightBody m k=true∧waitsFor .any ops_rightBody k i=true):=by
  have hall:(List.range 12).all (fun i=>waitsFor .any ops_rightBody 12 i || (List.range 12).any (fun k=>waitsFor .any ops_rightBody 12 k && waitsFor .any ops_rightBody k i) || (List.range 12).any (fun k=>(List.range 12).any (fun m=>waitsFor .any ops_rightBody 12 m && (waitsFor .any ops_rightBody m k && waitsFor .any ops_rightBody k i))))=true:=by kernel_rfl
  intro i hi
  have:=List.all_eq_true.1 hall i (List.mem_range.2 hi)
  simp only[Bool.or_eq_true,List.any_eq_true,List.mem_range,Bool.and_eq_true] at this
  rcases this with (h | ⟨k,hk,h1,h2⟩) | ⟨k,hk,m,hm,h1,h2,h3⟩
  ·exact .inl h
  ·exact .inr (.inl ⟨k,hk,h1,h2⟩)
  ·exact .inr (.inr ⟨k,m,hk,hm,h1,h2,h3⟩)
 intro j hj
 rcases hone j hj with h | ⟨k,hk,h1,h2⟩ | ⟨k,m,hk,hm,h1,h2,h3⟩
 ·exact hlast j h
 ·exact hback k j hk (hlast k h1) h2
 ·exact hback k j hk (hback m k hm (hlast m h1) h2) h3
theorem TT_rightBody_stab (C lo G g n cap en:Nat)(KV:Value)(w0:World)(hC:C<lo):∀j v w w',TT_rightBody C lo G g n cap en KV w0 j v w→Fr C w w'→TT_rightBody C lo G g n cap en KV w0 j v w':=by
 intro j v w w' h hf
 have hk:=KeepLo.fr hf hC
 by_cases hj:j<12
 ·have hj':j=0∨j=1∨j=2∨j=3∨j=4∨j=5∨j=6∨j=7∨j=8∨j=9∨j=10∨j=11:=by omega
  rcases hj' with rfl | rfl | rfl | rfl | rfl | rfl | rfl | rfl | rfl | rfl | rfl | rfl
  ·exact h
  ·exact h
  ·exact h
  ·exact h
  ·exact h
  ·exact h
  ·exact h
  ·exact h
  ·obtain⟨z,h1⟩:=h
   exact⟨z,h1⟩
  ·obtain⟨z,h1⟩:=h
   exact⟨z,h1⟩
  ·exact h
  ·exact h
 ·unfold TT_rightBody at h ⊢
  have hlen:(TL_rightBody C lo G g n cap en KV w0).length=12:=rfl
  rw[List.getD_eq_getElem?_getD,List.getElem?_eq_none (by omega)]
  trivial
set_option maxRecDepth 100000 in
set_option maxHeartbeats 16000000 in
theorem rightBody (C lo G g n cap en:Nat)(KV:Value)(w0:World)(B:List Bk)(l:List Int)(x:Bk)(vals:Int)(D:DSt w0 C lo G B)(hBn:B.length=n)(hen:en<n)(hx:B[en]? = some x)(gs:GenSt w0 C lo G (.slice (some ⟨g,0,none⟩) B.length cap) B vals)(ka:OwnInts w0 lo KV l)(hl:0<l.length∧l.length≤1000)(hgw:g<w0.heap.size)(hgC:g≠C)(hGC:G≠C)(q:∀j,2≤j→j<6→∃u,w0.cell? ⟨g,en*6+j,none⟩=some u)(r:∀j,w0.frozen? ⟨g,j,none⟩=false)(a0:Act)(hsz:a0.tmps.size=44)(h3:a0.eval (.tmp 3) = .pointer (some ⟨G,0,none⟩))(h6:a0.eval (.tmp 6) = .int .i64 (en:Int))(h7:a0.eval (.tmp 7)=KV)
  (Q:Exit→Act→World→Prop) (hQ:∀(f:Nat→Value) (W':World),(fun W=>∃B':List Bk,B'.length=B.length∧DSt W C lo G B'∧FrD C lo G w0 W∧GenSt W C lo G (.slice (some ⟨g,0,none⟩) B'.length cap) B' vals) W'→Q .normal (putL a0 (List.range' 28 12) f) W') :
  wpAny Tryz.prog .any ops_rightBody Q 13 (Array.replicate 13 false) a0 w0:=by
 have hGw:G<w0.heap.size:=D.box_lt
 have hc1:∀w,Cur w C∧Fr C w0 w→w.cell? ⟨G,1,none⟩=some (.slice (some ⟨g,0,none⟩) n cap):=fun w hS=>by
  have h:=gs.cells.2.1
  rw[hBn] at h
  exact(hS.2.cell (x:=⟨G,1,none⟩) hGw hGC).trans h
 have hDS:∀w,Cur w C∧Fr C w0 w→DSt w C lo G B:=fun w hS=>D.draw hS.2 hS.1
 refine wpAny_inv (N:=12) (s0:=28) (a0:=a0) (S:=fun w=>Cur w C∧Fr C w0 w) (R:=Fr C) (T:=TT_rightBody C lo G g n cap en KV w0) (Post:=fun W=>∃B':List Bk,B'.length=B.length∧DSt W C lo G B'∧FrD C lo G w0 W∧GenSt W C lo G (.slice (some ⟨g,0,none⟩) B'.length cap) B' vals)
  rfl (by omega) ops_rightBody_acyc ops_rightBody_plain ops_rightBody_all (TT_rightBody_stab C lo G g n cap en KV w0 D.hC) ?hop ?hlast ?hQ 13 _ a0 w0 (by simp) ⟨by simp,fun j o ho hj=>?cl,rfl,rfl,fun _ _=>rfl,.inl ⟨by simp,⟨D.cur,Fr.refl _ _⟩,fun j hj hjl=>?nt⟩⟩
 case cl=>
  have:(Array.replicate 13 false).getD j false=false:=by simp[Array.getD]
  rw[this] at hj
  cases hj
 case nt=>
  have:(Array.replicate 13 false).getD j false=false:=by simp[Array.getD]
  rw[this] at hjl
  cases hjl
 case hQ=>
  intro a w e1 e2 e3 hP
  rw[act_fill e1 e2 e3]
  exact hQ _ w hP
 case hlast=>
  intro o ho a w es eo hS hT K hK
  obtain⟨_,rfl⟩:=Array.getElem?_eq_some_iff.1 ho
  have ev:∀t:Nat,t<28→a.eval (.tmp t)=a0.eval (.tmp t):=fun t ht=>by
   show a.tmps.getD t undef=a0.tmps.getD t undef
   rw[Array.getD_eq_getD_getElem?,Array.getD_eq_getD_getElem?,eo t (.inl ht)]
  obtain⟨z,d0⟩:=hT 9 (by omega)
  have d1:=hT 11 (by omega)
  have gw:GenSt w C lo G (.slice (some ⟨g,0,none⟩) B.length cap) B vals:=gs.lo D.hG (KeepLo.fr hS.2 D.hC)
  have hq:∀j,2≤j→j<6→∃u,w.cell? ⟨g,en*6+j,none⟩=some u:=fun j h2 h6=>by
   obtain⟨u,hu⟩:=q j h2 h6
   exact⟨u,(hS.2.cell (x:=⟨g,en*6+j,none⟩) hgw hgC).trans hu⟩
  have hr:∀j,w.frozen? ⟨g,j,none⟩=false:=fun j=>(hS.2.frozen (x:=⟨g,j,none⟩) hgw hgC).trans (r j)
  obtain⟨u2,q2⟩:=hq 2 (by omega) (by omega)
  obtain⟨u3,q3⟩:=hq 3 (by omega) (by omega)
  obtain⟨u4,q4⟩:=hq 4 (by omega) (by omega)
  obtain⟨u5,q5⟩:=hq 5 (by omega) (by omega)
  have hst:=(hDS w hS).setTerm gw hx 3 z 0 0
  have gst:=gw.setTerm hx 3 z 0 0
  refine wp_skip_of (run_storeOp rfl d1 d0 (run_store_term q2 q3 q4 q5 (hr _) (hr _) (hr _) (hr _) _ _ _ _)) (hK _ ⟨_,List.length_set,hst.1,(FrD.fr hS.2 D.hC D.cur.lt).trans hst.2,?_⟩)
  rw[List.length_set]
  exact gst
 case hop=>
  intro j hj o ho a w es eo hS hT K hK
  have ev:∀t:Nat,t<28→a.eval (.tmp t)=a0.eval (.tmp t):=fun t ht=>by
   show a.tmps.getD t undef=a0.tmps.getD t undef
   rw[Array.getD_eq_getD_getElem?,Array.getD_eq_getD_getElem?,eo t (.inl ht)]
  have hj':j=0∨j=1∨j=2∨j=3∨j=4∨j=5∨j=6∨j=7∨j=8∨j=9∨j=10∨j=11:=by omega
  rcases hj' with rfl | rfl | rfl | rfl | rfl | rfl | rfl | rfl | rfl | rfl | rfl | rfl
  ·obtain⟨_,rfl⟩:=Array.getElem?_eq_some_iff.1 ho
   exact wp_move rfl ((ev 3 (by omega)).trans h3) (hK _ _ (Fr.refl C w) hS rfl)
  ·obtain⟨_,rfl⟩:=Array.getElem?_eq_some_iff.1 ho
   have d0:=hT 0 (by omega) (by kernel_rfl)
   exact wp_nil rfl d0 (hK _ _ (Fr.refl C w) hS rfl)
  ·obtain⟨_,rfl⟩:=Array.getElem?_eq_some_iff.1 ho
   have d0:=hT 1 (by omega) (by kernel_rfl)
   exact wp_field rfl d0 (run_field_gen1 G w) (hK _ _ (Fr.refl C w) hS rfl)
  ·obtain⟨_,rfl⟩:=Array.getElem?_eq_some_iff.1 ho
   have d0:=hT 2 (by omega) (by kernel_rfl)
   exact wp_field rfl d0 (run_field_fn0 G 1 w) (hK _ _ (Fr.refl C w) hS rfl)
  ·obtain⟨_,rfl⟩:=Array.getElem?_eq_some_iff.1 ho
   have d0:=hT 3 (by omega) (by kernel_rfl)
   exact wp_load rfl d0 (run_load_blocks (hc1 w hS)) (hK _ _ (Fr.refl C w) hS rfl)
  ·obtain⟨_,rfl⟩:=Array.getElem?_eq_some_iff.1 ho
   exact wp_move rfl ((ev 6 (by omega)).trans h6) (hK _ _ (Fr.refl C w) hS rfl)
  ·obtain⟨_,rfl⟩:=Array.getElem?_eq_some_iff.1 ho
   exact wp_move rfl ((ev 3 (by omega)).trans h3) (hK _ _ (Fr.refl C w) hS rfl)
  ·obtain⟨_,rfl⟩:=Array.getElem?_eq_some_iff.1 ho
   exact wp_move rfl ((ev 7 (by omega)).trans h7) (hK _ _ (Fr.refl C w) hS rfl)
  ·obtain⟨_,rfl⟩:=Array.getElem?_eq_some_iff.1 ho
   have d0:=hT 6 (by omega) (by kernel_rfl)
   have d1:=hT 7 (by omega) (by kernel_rfl)
   refine wp_call_of (f:=143) (args := #[.pointer (some ⟨G,0,none⟩),KV]) (runCall2 rfl d0 d1 (enters_of Tryz.func143 (by kernel_rfl) rfl) _) (l2Some_any C lo G B KV l w (hDS w hS) (ownsRow_lo ka (KeepLo.fr hS.2 D.hC)) hl.1 hl.2) ?_
   rintro e w1 ⟨z,rfl,dd,hf⟩
   exact⟨_,rfl,hK _ _ hf ⟨dd.cur,hS.2.trans hf⟩ ⟨z,rfl⟩⟩
  ·obtain⟨_,rfl⟩:=Array.getElem?_eq_some_iff.1 ho
   obtain⟨z,d1⟩:=hT 8 (by omega) (by kernel_rfl)
   exact wp_value_of (run_buildTerm rfl d1 w) (hK _ _ (Fr.refl C w) hS ⟨z,rfl⟩)
  ·obtain⟨_,rfl⟩:=Array.getElem?_eq_some_iff.1 ho
   have d0:=hT 4 (by omega) (by kernel_rfl)
   have d1:=hT 5 (by omega) (by kernel_rfl)
   exact wp_index rfl d0 d1 (run_index_block hen w) (hK _ _ (Fr.refl C w) hS rfl)
  ·obtain⟨_,rfl⟩:=Array.getElem?_eq_some_iff.1 ho
   have d0:=hT 10 (by omega) (by kernel_rfl)
   exact wp_field rfl d0 (run_field_block2 g (en*6) w) (hK _ _ (Fr.refl C w) hS rfl)
theorem GenSt.aside {w w':World}{C lo G r:Nat}{bv:Value}{bs:List Bk}{vals:Int}(h:GenSt w C lo G bv bs vals)(hg:w.grownBy w' (some r)){c:Array Value}{t:TypeId}{z:Nat × Nat}(hr:w.heap[r]? = some (.cells c t z))(h1:t≠44)(h2:t≠46)(h3:t≠74)(h4:t≠146)(hne:G≠r):GenSt w' C lo G bv bs vals:=by
 have o:∀{e:TypeId},t≠e→Other w (some r) e:=fun he r' hr'=>by cases hr';exact⟨_,_,_,hr,he⟩
 exact⟨(hg.block G (Array.getElem?_eq_some_iff.1 h.box).1 (fun e=>hne (by cases e;rfl))).trans h.box,ownsRow_other h.row hg (o h1),fun i b hb=>(h.ins i b hb).other hg (o h2),fun i b hb=>(h.phi i b hb).other hg (o h3) (o h4),h.apL,h.apP⟩
theorem grown_two (W:World)(g i j:Nat)(u v:Value):W.grownBy ((W.setCell ⟨g,i,none⟩ u).setCell ⟨g,j,none⟩ v) (some g) :=
 ⟨rfl,rfl,rfl,by simp[World.setCell],fun k _ hk=>by
  have hne:k≠g:=fun e=>hk (by rw[e])
  rw[Below.heap_setCell _ _ _ k hne,Below.heap_setCell _ _ _ k hne]⟩
def GivesRight (C:Nat)(w:World)(e:Ending)(w':World):Prop :=
 ∃(G g cap:Nat) (bs:List Bk) (vals:Int),e = .returned (.agg #[.slice (some ⟨g,0,none⟩) bs.length cap,.int .i64 vals])∧0<bs.length∧bs.length≤900∧DSt w' C (C+1) G bs∧GenSt w' C (C+1) G (.slice (some ⟨g,0,none⟩) bs.length cap) bs vals∧Below C w w'∧w.heap.size≤w'.heap.size∧∀k c z,C<k→w.heap[k]? = some (.cells c 26 z)→w'.heap[k]? = some (.cells c 26 z)
set_option maxRecDepth 100000 in
set_option maxHeartbeats 16000000 in
theorem right_any (C:Nat)(w:World)(hc:Cur w C):Calls Tryz.prog 82 #[.pointer (some ⟨C,0,none⟩)] w fun e w'=>GivesRight C w e w':=by
 have HC:Hid (Cur w C):=hc
 have hCw:C<w.heap.size:=hc.lt
 obtain⟨R,hR⟩:∃x,w.heap.size=x:=⟨_,rfl⟩
 have HLO:Hid (w.heap.size=R):=hR
 obtain⟨lo,hlo0⟩:∃x,x=C+1:=⟨_,rfl⟩
 have HLC:Hid (lo=C+1):=hlo0
 have hClo:C<lo:=by omega
 have hloR:lo≤R:=by omega
 clear hc hR hlo0
 go_enter Tryz.func82,Tryz.ntmps82
 go_wp2_with fail
 have hlo:=HLO.out
 obtain⟨w1,hw1⟩:∃W,(w.alloc (.cells #[.slice none 0 0,.int .i64 0] 26)).alloc (.cells #[.pointer (some ⟨C,0,none⟩),.slice none 0 0,.int .i64 0] 214)=W:=⟨_,rfl⟩
 have b1:Below w.heap.size w w1:=by rw[←hw1];repeat (first | exact Below.refl _ _ | apply Below.drew | refine Below.alloc ?_ (by simp <;> omega) _ | refine Below.setCell ?_ (by simp <;> omega) _)
 have X1:Hid (w1.heap[w.heap.size]? = some (.cells #[.slice none 0 0,.int .i64 0] 26 (0,0))):=by
  rw[←hw1]
  exact(Below.heap_alloc _ _ _ (by simp)).trans (World.alloc_heap_new _ _)
 have D1:Hid (DSt w1 C lo (w.heap.size+1) []):=by
  refine⟨by omega,by omega,HC.out.later b1,.slice none 0 0,0,?_,World.ownsRow_nil _ _ _ _,fun i b hb=>by simp at hb,fun i b hb=>by simp at hb,fun i j x y _ hx=>by simp at hx,fun i j x y _ hx=>by simp at hx⟩
  rw[←hw1]
  have h:=World.alloc_heap_new (w.alloc (.cells #[.slice none 0 0,.int .i64 0] 26)) (.cells #[.pointer (some ⟨C,0,none⟩),.slice none 0 0,.int .i64 0] 214)
  rw[World.size_alloc] at h
  exact h
 have F1:Hid (Below C w w1):=b1.mono (by omega)
 have HW1:Hid (Below w.heap.size w w1):=b1
 rw[hw1]
 clear hw1 b1
 obtain⟨G,hG⟩:∃x,w.heap.size+1=x:=⟨_,rfl⟩
 have HG:Hid (w.heap.size+1=G):=hG
 rw[hG] at D1 ⊢
 rw[hlo] at X1 hCw ⊢
 have hloG:R≠G:=by omega
 clear hG hlo
 refine(l2Block_any C lo G _ _ D1.out (by simp)).mono ?_
 rintro e w2 ⟨rfl,dd,ff⟩
 obtain⟨b0,hb0⟩:∃b0:Nat,([]:List Bk).length=b0:=⟨_,rfl⟩
 rw[hb0]
 have HB0:Hid (b0=0):=hb0.symm
 obtain⟨B2,HB2⟩:∃X,Hid (([]:List Bk) ++ [bk0]=X):=⟨_,rfl⟩
 rw[HB2.out] at dd
 have HL2:Hid (B2.length=1):=by rw[←HB2.out];exact(rfl:([] ++ [bk0]).length=1)
 have D2:Hid (DSt w2 C lo G B2):=dd
 have F2:Hid (FrD C lo G w1 w2):=ff
 clear dd ff hb0
 go_wp2_with fail
 refine(l2New_any C lo G _ _ D2.out).mono ?_
 rintro e w3 ⟨d,rfl,dd,ff⟩
 have D3:Hid (DSt w3 C lo G B2):=dd
 have F3:Hid (FrD C lo G w1 w3):=F2.out.trans ff
 clear dd ff
 go_wp2_with fail
 refine(l2Put_any C lo G _ b0 24 d 0 0 0 _ D3.out (by have:=HB0.out;have:=HL2.out;omega) (by have:=HL2.out;omega)).mono ?_
 rintro e w4 ⟨v4,B4,rfl,hl,dd,ff⟩
 have HL4:Hid (B4.length=1):=hl.trans HL2.out
 have D4:Hid (DSt w4 C lo G B4):=dd
 have F4:Hid (FrD C lo G w1 w4):=F3.out.trans ff
 have hlow4:lo≤w4.heap.size:=by have h1:=dd.hG;have h2:=dd.box_lt;omega
 clear dd ff hl
 go_wp2_with fail
 obtain⟨w5,hw5⟩:∃W,w4.alloc (.cells #[.int .i64 d] 3)=W:=⟨_,rfl⟩
 have b5:Below w4.heap.size w4 w5:=by rw[←hw5];exact Bel.alloc _ _
 have D5:Hid (DSt w5 C lo G B4):=D4.out.later b5
 have F5:Hid (FrD C lo G w1 w5):=F4.out.trans (FrD.later b5 D4.out.cur.lt)
 have K5:Hid (OwnInts w5 lo (.slice (some ⟨w4.heap.size,0,none⟩) 1 1) [d]):=by rw[←hw5];exact ownInts_one rfl hlow4
 try rw[hw5]
 clear hw5 b5
 refine(code_ok C lo G 2 (by omega) B4 b0 (.slice (some ⟨w4.heap.size,0,none⟩) 1 1) [d] _ D5.out (by have:=HB0.out;have:=HL4.out;omega) (by have:=HL4.out;simp[Kc];omega) K5.out (by simp) (by simp)).mono ?_
 rintro e w6 ⟨en,kv6,l6,B6,rfl,he1,he2,he3,dd,hk,hk0,hk1,ff⟩
 have D6:Hid (DSt w6 C lo G B6):=dd
 obtain⟨n6,hn6⟩:∃n,B6.length=n:=⟨_,rfl⟩
 have HL6:Hid (B6.length=n6):=hn6
 rw[hn6] at he1 he2 he3
 have he4:n6≤900:=by have:=HL4.out;simp[Kc] at he3;omega
 have F6:Hid (FrD C lo G w1 w6):=F5.out.trans ff
 have K6:Hid (OwnInts w6 lo kv6 l6):=hk
 have HK6:Hid (0<l6.length∧l6.length≤1000):=⟨hk0,by simp at hk1;omega⟩
 clear dd ff hk hk0 hk1 he2 he3 hn6
 go_wp2_with fail
 obtain⟨g,cap,vals,x,hx,gs,c1,hlog,hgl,q0,q2,q3,q4,q5,hfz⟩:=D6.out.open (i:=en) (by rw[HL6.out];exact he1)
 have hgC:g≠C:=by have:=D6.out.hC;omega
 have hGC:G≠C:=by have h1:=D6.out.hC;have h2:=D6.out.hG;omega
 have gs2:GenSt w6.drew C lo G (.slice (some ⟨g,0,none⟩) B6.length cap) B6 vals:=⟨gs.box,gs.row,gs.ins,gs.phi,gs.apL,gs.apP⟩
 refine wp_region_any (by kernel_rfl) ?_
 refine rightBody C lo G g n6 cap en kv6 w6.drew B6 l6 x vals D6.out.drew HL6.out he1 hx gs2 (by exact K6.out) HK6.out (by exact hgl) hgC hGC (fun j h2 h6=>?_) (fun j=>hfz j) _ ?_ ?_ ?_ ?_ _ ?_
 ·have hj:j=2∨j=3∨j=4∨j=5:=by omega
  rcases hj with rfl | rfl | rfl | rfl
  ·exact q2
  ·exact q3
  ·exact q4
  ·exact q5
 ·rfl
 ·rfl
 ·rfl
 ·rfl
 rintro f W' ⟨B',hl',dd0,ff0,gs7⟩
 have ff:FrD C lo G w6 W':=⟨⟨ff0.bel.os,ff0.bel.tape,ff0.bel.output,ff0.bel.size,ff0.bel.block⟩,ff0.block⟩
 have D7:Hid (DSt W' C lo G B'):=dd0
 have F7:Hid (FrD C lo G w1 W'):=F6.out.trans ff
 have G7:Hid (GenSt W' C lo G (.slice (some ⟨g,0,none⟩) B'.length cap) B' vals):=gs7
 have HL7:Hid (B'.length=n6):=hl'.trans HL6.out
 have x7:W'.heap[R]? = some (.cells #[.slice none 0 0,.int .i64 0] 26 (0,0)):=F7.out.block R _ hloR X1.out hloG (fun c t z e=>by cases e;decide)
 have X7:Hid (W'.heap[R]? = some (.cells #[.slice none 0 0,.int .i64 0] 26 (0,0))):=x7
 obtain⟨_,p1,p2,_,_⟩:=gs7.cells
 have y0:W'.cell? ⟨R,0,none⟩=some (.slice none 0 0):=by simp[World.cell?,x7]
 have y1:W'.cell? ⟨R,1,none⟩=some (.int .i64 0):=by simp[World.cell?,x7]
 have z0:W'.frozen? ⟨R,0,none⟩=false:=by simp[World.frozen?,x7]
 have z1:W'.frozen? ⟨R,1,none⟩=false:=by simp[World.frozen?,x7]
 rw[hl',HL6.out] at p1
 have gtwo:=grown_two W' R 0 1 (.slice (some ⟨g,0,none⟩) n6 cap) (.int .i64 vals)
 have G8:Hid (GenSt ((W'.setCell ⟨R,0,none⟩ (.slice (some ⟨g,0,none⟩) n6 cap)).setCell ⟨R,1,none⟩ (.int .i64 vals)) C lo G (.slice (some ⟨g,0,none⟩) B'.length cap) B' vals):=gs7.aside gtwo x7 (by decide) (by decide) (by decide) (by decide) (fun e=>hloG e.symm)
 have bl8:Below lo W' ((W'.setCell ⟨R,0,none⟩ (.slice (some ⟨g,0,none⟩) n6 cap)).setCell ⟨R,1,none⟩ (.int .i64 vals)):=((Below.refl lo W').setCell (p:=⟨R,0,none⟩) hloR _).setCell (p:=⟨R,1,none⟩) hloR _
 have BL8:Hid (Below lo W' ((W'.setCell ⟨R,0,none⟩ (.slice (some ⟨g,0,none⟩) n6 cap)).setCell ⟨R,1,none⟩ (.int .i64 vals))):=bl8
 clear hl' dd0 ff0 ff gs gs2 gs7 c1 q0 q2 q3 q4 q5 hfz hx hlog hgl x7 gtwo bl8
 have hrng:List.range' 28 12 = [28,29,30,31,32,33,34,35,36,37,38,39]:=rfl
 simp only[putL,hrng,List.foldl_cons,List.foldl_nil,Act.put,Exit.then,List.setIfInBounds_toArray,List.set_cons_succ,List.set_cons_zero]
 go_at_K
 go_wp2_with fail
 have r0:((W'.setCell ⟨R,0,none⟩ (.slice (some ⟨g,0,none⟩) n6 cap)).setCell ⟨R,1,none⟩ (.int .i64 vals)).cell? ⟨R,0,none⟩=some (.slice (some ⟨g,0,none⟩) n6 cap):=by
  rw[World.cell?_setCell_other _ _ _ _ (by simp)]
  exact World.cell?_setCell_same _ _ _ y0
 have r1:((W'.setCell ⟨R,0,none⟩ (.slice (some ⟨g,0,none⟩) n6 cap)).setCell ⟨R,1,none⟩ (.int .i64 vals)).cell? ⟨R,1,none⟩=some (.int .i64 vals) :=
  World.cell?_setCell_same _ _ _ ((World.cell?_setCell_other _ _ _ _ (by simp)).trans y1)
 refine bodyPost_ret (v := .agg #[.slice (some ⟨g,0,none⟩) n6 cap,.int .i64 vals]) (by simp[results,Tryz.results82,go_sem,r0,r1]) rfl ?_
 refine⟨G,g,cap,B',vals,by rw[HL7.out],by rw[HL7.out];omega,by rw[HL7.out];exact he4,?_,?_,?_,?_,?_⟩
 ·rw[←HLC.out]
  exact⟨D7.out.hC,D7.out.hG,D7.out.cur.below D7.out.hC BL8.out,_,_,G8.out⟩
 ·rw[←HLC.out]
  exact G8.out
 ·exact F1.out.trans (F7.out.bel.trans (BL8.out.mono (Nat.le_of_lt D7.out.hC)))
 ·have h1:=HW1.out.size
  have h2:=F7.out.bel.size
  have h3:=BL8.out.size
  omega
 ·intro k c z hCk hk
  have hkl:k<w.heap.size:=(Array.getElem?_eq_some_iff.1 hk).1
  have hRk:=HLO.out
  have hGk:=HG.out
  have hlc:=HLC.out
  have e1:w1.heap[k]? = some (.cells c 26 z):=(HW1.out.block k hkl).trans hk
  have e2:W'.heap[k]? = some (.cells c 26 z):=F7.out.block k _ (by omega) e1 (by omega) (fun c t z e=>by cases e;decide)
  exact(Below.heap_setCell _ _ _ k (by show k≠R;omega)).trans ((Below.heap_setCell _ _ _ k (by show k≠R;omega)).trans e2)
theorem ownsRow_cells {w:World}{lo:Nat}{e:TypeId}{s:Nat}{v:Value}{n:Nat}{xs:List Value}(h:w.ownsRow lo e s v n xs):∃a cap,v = .slice a n cap∧n≤maxLen∧(0<n→∃g,a=some ⟨g,0,none⟩∧∀i,i<n*s→w.cell? ⟨g,i,none⟩=xs[i]?):=by
 have hl:=h.1
 rcases h.2 with ⟨rfl,h0⟩ | ⟨g,cap,cur,rfl,hlo,hg,h1,h2,h3,h4⟩
 ·exact⟨none,0,by rw[h0],by rw[h0];exact Nat.zero_le _,fun hp=>absurd hp (by omega)⟩
 ·refine⟨_,cap,rfl,by omega,fun _=>⟨g,rfl,fun i hi=>?_⟩⟩
  have e1:(cur.toList.take (n*s))[i]? = cur[i]?:=by rw[List.getElem?_take];simp[hi]
  rw[←h4,e1]
  simp[World.cell?,hg]
theorem ownsRow_cellsLo {w:World}{lo:Nat}{e:TypeId}{s:Nat}{v:Value}{n:Nat}{xs:List Value}(h:w.ownsRow lo e s v n xs):∃a cap,v = .slice a n cap∧n≤maxLen∧(0<n→∃g,a=some ⟨g,0,none⟩∧lo≤g∧∀i,i<n*s→w.cell? ⟨g,i,none⟩=xs[i]?):=by
 have hl:=h.1
 rcases h.2 with ⟨rfl,h0⟩ | ⟨g,cap,cur,rfl,hlo,hg,h1,h2,h3,h4⟩
 ·exact⟨none,0,by rw[h0],by rw[h0];exact Nat.zero_le _,fun hp=>absurd hp (by omega)⟩
 ·refine⟨_,cap,rfl,by omega,fun _=>⟨g,rfl,hlo,fun i hi=>?_⟩⟩
  have e1:(cur.toList.take (n*s))[i]? = cur[i]?:=by rw[List.getElem?_take];simp[hi]
  rw[←h4,e1]
  simp[World.cell?,hg]
theorem maxLen_le : maxLen≤9223372036854775807:=by decide
def PhiRowW (w:World)(lo:Nat)(v:Value)(n:Nat):Prop :=
 ∃xs,w.ownsRow lo 74 2 v n xs∧(∀i,i<n→∃d av al,xs[i*2]? = some (.int .i64 d)∧xs[i*2+1]? = some av∧ArmRow w lo av al)
theorem PhiRow.weak {w:World}{lo:Nat}{v:Value}{n:Nat}(h:PhiRow w lo v n):PhiRowW w lo v n:=by
 obtain⟨xs,h1,h2,_⟩:=h
 refine⟨xs,h1,fun i hi=>?_⟩
 obtain⟨d,av,al,e1,e2,e3⟩:=h2 i hi
 exact⟨d,av,al,e1,e2,e3.1⟩
theorem arms_read {w:World}{lo:Nat}{v:Value}{n:Nat}(h:ArmRow w lo v n):∃l:List ArmD,ListAt lo 2 ArmAt w v l:=by
 obtain⟨a,cap,rfl,_,h16,hc⟩:=h
 by_cases hp:0<n
 ·obtain⟨b,off,cur,rfl,hlob,hb,hd⟩:=hc hp
  have cell:∀j,j<n*2→∃z,w.cell? ⟨b,off+j,none⟩=some (.int .i64 z):=fun j hj=>by
   obtain⟨z,hz⟩:=hd j hj
   exact⟨z,by simp[World.cell?,hb,hz]⟩
  obtain⟨l,hl,hq⟩:=list_of (α:=ArmD) (n:=n) (Q:=fun i x=>ArmAt w b (off+i*2) x) (fun i hi=>by
   obtain⟨z0,e0⟩:=cell (i*2) (by omega)
   obtain⟨z1,e1⟩:=cell (i*2+1) (by omega)
   exact⟨⟨z0,z1⟩,e0,by rw[Nat.add_assoc];exact e1⟩)
  exact⟨l,_,cap,by rw[hl],by rw[hl];omega,fun _=>⟨b,off,rfl,hlob,hq⟩⟩
 ·have h0:n=0:=by omega
  subst h0
  exact⟨[],a,cap,rfl,by simp,fun hp=>absurd hp (by simp)⟩
theorem phis_read {w:World}{lo:Nat}{v:Value}{n:Nat}(h:PhiRowW w lo v n):∃l:List PhiD,ListAt lo 2 (PhiAt lo) w v l:=by
 obtain⟨xs,h1,h2⟩:=h
 obtain⟨a,cap,rfl,hm,hc⟩:=ownsRow_cellsLo h1
 by_cases hp:0<n
 ·obtain⟨g,rfl,hlog,hcell⟩:=hc hp
  obtain⟨l,hl,hq⟩:=list_of (α:=PhiD) (n:=n) (Q:=fun i x=>PhiAt lo w g (0+i*2) x) (fun i hi=>by
   obtain⟨d,av,al,e1,e2,e3⟩:=h2 i hi
   obtain⟨la,hla⟩:=arms_read e3
   exact⟨⟨d,la⟩,by rw[Nat.zero_add,hcell _ (by omega)];exact e1,av,by rw[Nat.zero_add,hcell _ (by omega)];exact e2,hla⟩)
  exact⟨l,_,cap,by rw[hl],by rw[hl];exact Nat.le_trans hm maxLen_le,fun _=>⟨g,0,rfl,hlog,hq⟩⟩
 ·have h0:n=0:=by omega
  subst h0
  exact⟨[],a,cap,rfl,by simp,fun hp=>absurd hp (by simp)⟩
theorem places_read {w:World}{lo:Nat}{v:Value}{n:Nat}(h:InsRow w lo v n):∃l:List InsD,ListAt lo 5 InsAt w v l:=by
 obtain⟨xs,h1,h2,_⟩:=h
 obtain⟨a,cap,rfl,hm,hc⟩:=ownsRow_cellsLo h1
 have hl:=h1.1
 by_cases hp:0<n
 ·obtain⟨g,rfl,hlog,hcell⟩:=hc hp
  have cell:∀j,j<n*5→∃z,w.cell? ⟨g,j,none⟩=some (.int .i64 z):=fun j hj=>by
   have hx:xs[j]? = some xs[j]:=List.getElem?_eq_getElem (by omega)
   obtain⟨z,hz⟩:=h2 _ (List.getElem_mem (by omega:j<xs.length))
   exact⟨z,by rw[hcell j hj,hx,hz]⟩
  obtain⟨l,hll,hq⟩:=list_of (α:=InsD) (n:=n) (Q:=fun i x=>InsAt w g (0+i*5) x) (fun i hi=>by
   obtain⟨z0,e0⟩:=cell (i*5) (by omega)
   obtain⟨z1,e1⟩:=cell (i*5+1) (by omega)
   obtain⟨z2,e2⟩:=cell (i*5+2) (by omega)
   obtain⟨z3,e3⟩:=cell (i*5+3) (by omega)
   obtain⟨z4,e4⟩:=cell (i*5+4) (by omega)
   refine⟨⟨z0,z1,z2,z3,z4⟩,?_⟩
   unfold InsAt
   rw[Nat.zero_add]
   exact⟨e0,e1,e2,e3,e4⟩)
  exact⟨l,_,cap,by rw[hll],by rw[hll];exact Nat.le_trans hm maxLen_le,fun _=>⟨g,0,rfl,hlog,hq⟩⟩
 ·have h0:n=0:=by omega
  subst h0
  exact⟨[],a,cap,rfl,by simp,fun hp=>absurd hp (by simp)⟩
theorem fn_read {w:World}{lo:Nat}{bv:Value}{bs:List Bk}(vals:Int)(row:w.ownsRow lo 44 6 bv bs.length (bkCells bs))(ins:∀(i:Nat) (b:Bk),bs[i]? = some b→InsRow w lo b.lv b.ln)(phi:∀(i:Nat) (b:Bk),bs[i]? = some b→PhiRowW w lo b.pv b.pn) :
  ∃F:FnD,FnAtLo lo w (.agg #[bv,.int .i64 vals]) F∧F.blocks.length=bs.length:=by
 obtain⟨a,cap,rfl,hm,hc⟩:=ownsRow_cellsLo row
 by_cases hp:0<bs.length
 ·obtain⟨g,rfl,hlog,hcell⟩:=hc hp
  obtain⟨l,hl,hq⟩:=list_of (α:=BlockD) (n:=bs.length) (Q:=fun i x=>BlockAt lo w g (0+i*6) x) (fun i hi=>by
   have hb:bs[i]? = some bs[i]:=List.getElem?_eq_getElem hi
   obtain⟨lp,hlp⟩:=phis_read (phi i _ hb)
   obtain⟨ll,hll⟩:=places_read (ins i _ hb)
   have c:∀j,j<6→w.cell? ⟨g,0+i*6+j,none⟩=bs[i].cells[j]?:=fun j hj=>by
    rw[Nat.zero_add,hcell _ (by omega)]
    exact bkCells_at bs i j _ hb hj
   exact⟨⟨lp,ll,⟨bs[i].k,bs[i].a,bs[i].t,bs[i].e⟩⟩,bs[i].pv,bs[i].lv,c 0 (by omega),c 1 (by omega),c 2 (by omega),c 3 (by omega),c 4 (by omega),c 5 (by omega),hlp,hll⟩)
  refine⟨⟨l,vals⟩,⟨_,rfl,_,cap,?_,?_,fun _=>⟨g,0,rfl,hlog,hq⟩⟩,hl⟩
  ·show Value.slice _ _ _=Value.slice _ l.length _
   rw[hl]
  ·show l.length≤_
   rw[hl]
   exact Nat.le_trans hm maxLen_le
 ·have h0:bs.length=0:=by omega
  rw[h0]
  exact⟨⟨[],vals⟩,⟨_,rfl,a,cap,rfl,by simp,fun hp=>absurd hp (by simp)⟩,rfl⟩
def ProgOk (lo g n cap:Nat)(w:World):Prop := ∃bs:List Bk,bs.length=n∧w.ownsRow lo 44 6 (.slice (some ⟨g,0,none⟩) n cap) n (bkCells bs)∧(∀(i:Nat) (b:Bk),bs[i]? = some b→InsRow w lo b.lv b.ln)∧(∀(i:Nat) (b:Bk),bs[i]? = some b→PhiRowW w lo b.pv b.pn)
theorem GenSt.prog {w:World}{C lo G g n cap m:Nat}{bs:List Bk}{vals:Int}(h:GenSt w C lo G (.slice (some ⟨g,0,none⟩) m cap) bs vals)(hn:bs.length=n)(hm:m=n):ProgOk lo g n cap w:=by
 subst hm hn
 exact⟨bs,rfl,h.row,h.ins,fun i b hb=>(h.phi i b hb).weak⟩
theorem run_field_fn1 (G:Nat)(W:World):(Instr.fieldAt 26 (.pointer (some ⟨G,0,none⟩)) 1).run Tryz.prog W = .ok (.pointer (some ⟨G,1,none⟩)) W:=by kernel_rfl
theorem run_field_block1 (G o:Nat)(W:World):(Instr.fieldAt 44 (.pointer (some ⟨G,o,none⟩)) 1).run Tryz.prog W = .ok (.pointer (some ⟨G,o+1,none⟩)) W:=by kernel_rfl
theorem run_field_term2 (G o:Nat)(W:World):(Instr.fieldAt 42 (.pointer (some ⟨G,o+2,none⟩)) 2).run Tryz.prog W = .ok (.pointer (some ⟨G,o+4,none⟩)) W:=by kernel_rfl
theorem run_field_ins0 (G o:Nat)(W:World):(Instr.fieldAt 46 (.pointer (some ⟨G,o,none⟩)) 0).run Tryz.prog W = .ok (.pointer (some ⟨G,o,none⟩)) W:=by kernel_rfl
theorem run_field_ins1 (G o:Nat)(W:World):(Instr.fieldAt 46 (.pointer (some ⟨G,o,none⟩)) 1).run Tryz.prog W = .ok (.pointer (some ⟨G,o+1,none⟩)) W:=by kernel_rfl
theorem run_field_ins2 (G o:Nat)(W:World):(Instr.fieldAt 46 (.pointer (some ⟨G,o,none⟩)) 2).run Tryz.prog W = .ok (.pointer (some ⟨G,o+2,none⟩)) W:=by kernel_rfl
theorem run_load_blocks0 {w:World}{G:Nat}{v:Value}(h:w.cell? ⟨G,0,none⟩=some v):(Instr.loadAt 24 (.pointer (some ⟨G,0,none⟩))).run Tryz.prog w = .ok v w:=by
 simp[Instr.loadAt,Instr.sureAddr,go_sem,h]
theorem run_load_int1 {w:World}{G:Nat}{v:Value}(h:w.cell? ⟨G,1,none⟩=some v):(Instr.loadAt 3 (.pointer (some ⟨G,1,none⟩))).run Tryz.prog w = .ok v w:=by
 simp[Instr.loadAt,Instr.sureAddr,go_sem,h]
theorem run_load_list {w:World}{g j:Nat}{v:Value}(h:w.cell? ⟨g,j,none⟩=some v):(Instr.loadAt 40 (.pointer (some ⟨g,j,none⟩))).run Tryz.prog w = .ok v w:=by
 simp[Instr.loadAt,Instr.sureAddr,go_sem,h]
theorem run_store_int {w:World}{g j:Nat}{u:Value}(h:w.cell? ⟨g,j,none⟩=some u)(hf:w.frozen? ⟨g,j,none⟩=false)(z:Int):(Instr.storeAt 3 (.pointer (some ⟨g,j,none⟩)) (.int .i64 z)).run Tryz.prog w = .ok () (w.setCell ⟨g,j,none⟩ (.int .i64 z)):=by
 simp[Instr.storeAt,Instr.sureAddr,go_sem,h,hf]
theorem run_index_list {g n cap i:Nat}(hi:i<n)(W:World):(Instr.indexAt 40 (.slice (some ⟨g,0,none⟩) n cap) (.int .i64 (i:Int))).run Tryz.prog W = .ok (.pointer (some ⟨g,i*5,none⟩)) W:=by
 simp[Instr.indexAt,asIntOf,Sem.run_bind,run_underlying Tryz.underlying40,Tryz.sizeOf46,hi,Addr.add]
 intro h;omega
section
variable {o:Oper} {a:Act}
theorem run_lenOp {x:Operand}{ad:Option Addr}{n c:Nat}(ho:o.op = .call { callee := .builtin .len,args := #[x],argTypes := #[24] })(hx:a.eval x = .slice ad n c)(w:World):(execOp a.eval o).run Tryz.prog w = .ok (.value (.int .i64 (n:Int))) w:=by
 unfold execOp
 simp only[ho,resolve,invoke,builtin,Sem.run_bind,Sem.run_pure,Result.andThen_ok,List.map_toArray,List.map_cons,List.map_nil,hx]
 simp[Builtin.len_,go_sem]
theorem run_subOp {x:Operand}{z0:Int}(ho:o.op = .binOp .sub 3 x (.const (.int .i64 1)) 3)(hx:a.eval x = .int .i64 z0)(w:World):∃z:Int,(execOp a.eval o).run Tryz.prog w = .ok (.value (.int .i64 z)) w:=by
 have h0:a.eval (.const (.int .i64 1)) = .int .i64 1:=rfl
 exact⟨_,by simp[execOp,ho,hx,h0,eqGuard,binOp,Op.intArith];rfl⟩
theorem run_addOp {x:Operand}{z0:Int}(ho:o.op = .binOp .add 3 x (.const (.int .i64 1)) 3)(hx:a.eval x = .int .i64 z0)(w:World):∃z:Int,(execOp a.eval o).run Tryz.prog w = .ok (.value (.int .i64 z)) w:=by
 have h0:a.eval (.const (.int .i64 1)) = .int .i64 1:=rfl
 exact⟨_,by simp[execOp,ho,hx,h0,eqGuard,binOp,Op.intArith];rfl⟩
theorem run_buildTerm4 {p q r s:Operand}{z0 z1 z2 z3:Int}(ho:o.op = .build 42 #[(0,p),(1,q),(2,r),(3,s)])(hp:a.eval p = .int .i64 z0)(hq:a.eval q = .int .i64 z1)(hr:a.eval r = .int .i64 z2)(hs:a.eval s = .int .i64 z3)(w:World):(execOp a.eval o).run Tryz.prog w = .ok (.value (.agg #[.int .i64 z0,.int .i64 z1,.int .i64 z2,.int .i64 z3])) w:=by
 have h:(Instr.build 42 #[(0,.int .i64 z0),(1,.int .i64 z1),(2,.int .i64 z2),(3,.int .i64 z3)]).run Tryz.prog w = .ok (.agg #[.int .i64 z0,.int .i64 z1,.int .i64 z2,.int .i64 z3]) w:=by kernel_rfl
 simp[execOp,ho,hp,hq,hr,hs,h]
theorem run_ops10 (ho:o.op = .buildSlice 29 10 #[(0,.const (.int .i64 0)),(1,.const (.int .i64 1)),(2,.const (.int .i64 11)),(3,.const (.int .i64 20)),(4,.const (.int .i64 21)),(5,.const (.int .i64 22)),(6,.const (.int .i64 23)),(7,.const (.int .i64 24)),(8,.const (.int .i64 25)),(9,.const (.int .i64 26))])(w:World):(execOp a.eval o).run Tryz.prog w = .ok (.value (.slice (some ⟨w.heap.size,0,none⟩) 10 10)) (w.alloc (.cells #[.int .i64 0,.int .i64 1,.int .i64 11,.int .i64 20,.int .i64 21,.int .i64 22,.int .i64 23,.int .i64 24,.int .i64 25,.int .i64 26] 3)):=by
 have h:(Instr.buildSlice 29 10 #[((0:Nat),Value.int .i64 0),((1:Nat),Value.int .i64 1),((2:Nat),Value.int .i64 11),((3:Nat),Value.int .i64 20),((4:Nat),Value.int .i64 21),((5:Nat),Value.int .i64 22),((6:Nat),Value.int .i64 23),((7:Nat),Value.int .i64 24),((8:Nat),Value.int .i64 25),((9:Nat),Value.int .i64 26)]).run Tryz.prog w = .ok (.slice (some ⟨w.heap.size,0,none⟩) 10 10) (w.alloc (.cells #[.int .i64 0,.int .i64 1,.int .i64 11,.int .i64 20,.int .i64 21,.int .i64 22,.int .i64 23,.int .i64 24,.int .i64 25,.int .i64 26] 3)):=by
  simp[Instr.buildSlice,go_sem]
 simp only[execOp,ho,List.map_toArray,List.map_cons,List.map_nil,Act.eval]
 simp[h]
end
theorem cells10_at (w:World):∀k,k<10→(w.alloc (.cells #[.int .i64 0,.int .i64 1,.int .i64 11,.int .i64 20,.int .i64 21,.int .i64 22,.int .i64 23,.int .i64 24,.int .i64 25,.int .i64 26] 3)).cell? ⟨w.heap.size,k,none⟩=some (.int .i64 ([0,1,11,20,21,22,23,24,25,26].getD k 0)):=by
 intro k hk
 have hk':k=0∨k=1∨k=2∨k=3∨k=4∨k=5∨k=6∨k=7∨k=8∨k=9:=by omega
 rcases hk' with rfl | rfl | rfl | rfl | rfl | rfl | rfl | rfl | rfl | rfl <;> simp
theorem GenSt.setIns {w:World}{C lo G g n cap b nn lb lcap k f:Nat}{B:List Bk}{x:Bk}{vals:Int}(h:GenSt w C lo G (.slice (some ⟨g,0,none⟩) B.length cap) B vals)(hBn:B.length=n)(hx:B[b]? = some x)(hlv:x.lv = .slice (some ⟨lb,0,none⟩) nn lcap)(hln:x.ln=nn)(hk:k<nn)(hf:f<5)(z:Int) :
  (∃u,w.cell? ⟨lb,k*5+f,none⟩=some u)∧w.frozen? ⟨lb,k*5+f,none⟩=false∧ProgOk lo g n cap (w.setCell ⟨lb,k*5+f,none⟩ (.int .i64 z))∧∀r c fv,w.heap[r]? = some (.cells c 26 fv)→r≠lb:=by
 obtain⟨xs,hxs,hints,h24⟩:=h.ins b x hx
 rw[hlv,hln] at hxs
 have hxl:=hxs.1
 rcases hxs.2 with ⟨e,_⟩ | ⟨g',cap',cur,e,hlo,hg,h1,h2,h3,h4⟩
 ·cases e
 ·cases e
  have hcs:k*5+f<cur.size:=by omega
  have hgr:=grown_set' w lb (k*5+f) (.int .i64 z)
  have hoB:∀{e:TypeId},46≠e→Other w (some lb) e:=fun he r hr=>by cases hr;exact⟨_,_,_,hg,he⟩
  refine⟨⟨cur[k*5+f],by simp[World.cell?,hg,hcs]⟩,by simp[World.frozen?,hg],⟨B,hBn,?_,fun i y hy=>?_,fun i y hy=>?_⟩,fun r c fv hr e=>?_⟩
  ·rw[←hBn]
   exact ownsRow_other h.row hgr (hoB (by decide))
  ·by_cases e:i=b
   ·subst e
    rw[hx] at hy
    cases hy
    refine⟨xs.set (k*5+f) (.int .i64 z),?_,fun v hv=>?_,by rw[hln] at h24 ⊢;exact h24⟩
    ·rw[hlv,hln]
     refine⟨by rw[List.length_set];exact hxl,.inr ⟨lb,lcap,cur.setIfInBounds (k*5+f) (.int .i64 z),rfl,hlo,?_,h1,h2,by simpa using h3,?_⟩⟩
     ·obtain⟨hlt,hkk⟩:=Array.getElem?_eq_some_iff.1 hg
      show(w.heap.modify lb _)[lb]? = _
      rw[Array.getElem?_eq_getElem (by rw[Array.size_modify];exact hlt),Array.getElem_modify_self,hkk]
      rfl
     ·rw[←h4]
      apply List.ext_getElem?
      intro m
      simp only[Array.toList_setIfInBounds,List.getElem?_take,List.getElem?_set]
      by_cases hm:m<nn*5
      ·simp only[hm,if_true]
       by_cases e:k*5+f=m
       ·subst e
        simp[hcs]
        omega
       ·simp[e]
      ·simp[hm]
       omega
    ·rcases List.mem_or_eq_of_mem_set hv with hv | rfl
     ·exact hints v hv
     ·exact⟨z,rfl⟩
   ·exact(h.ins i y hy).apart hgr (fun r hr=>by
     cases hr
     intro e2
     exact h.apL b i x y (fun e3=>e e3.symm) hx hy lb (by rw[hlv];rfl) e2)
  ·exact((h.phi i y hy).other hgr (hoB (by decide)) (hoB (by decide))).weak
  ·rw[e,hg] at hr
   cases hr
def ops_drawTo : Array Oper := #[⟨some 33,.fieldAddr 26 (.tmp 3) 0,0,"l02_fn.go:295",#[],none⟩,⟨some 34,.load 24 (.tmp 33),24,"l02_fn.go:295",#[⟨0,.data⟩],none⟩,⟨some 35,.move (.tmp 4),3,"l02_fn.go:295",#[],none⟩,⟨some 36,.move (.tmp 0),66,"l02_fn.go:295",#[],none⟩,⟨some 37,.call ⟨.value (.func 83),#[.tmp 36,.const (.int .i64 18)],#[66,3]⟩,3,"l02_fn.go:295",#[⟨3,.data⟩],none⟩,⟨some 38,.binOp .sub 3 (.tmp 37) (.const (.int .i64 1)) 3,3,"l02_fn.go:295",#[⟨4,.data⟩],none⟩,⟨some 39,.indexAddr 24 (.tmp 34) (.tmp 35),0,"l02_fn.go:295",#[⟨1,.data⟩,⟨2,.data⟩,⟨0,.phase⟩,⟨1,.phase⟩,⟨2,.phase⟩,⟨3,.phase⟩,⟨4,.phase⟩,⟨5,.phase⟩],none⟩,⟨some 40,.fieldAddr 44 (.tmp 39) 2,0,"l02_fn.go:295",#[⟨6,.data⟩,⟨0,.phase⟩,⟨1,.phase⟩,⟨2,.phase⟩,⟨3,.phase⟩,⟨4,.phase⟩,⟨5,.phase⟩],none⟩,⟨some 41,.fieldAddr 42 (.tmp 40) 2,0,"l02_fn.go:295",#[⟨7,.data⟩,⟨0,.phase⟩,⟨1,.phase⟩,⟨2,.phase⟩,⟨3,.phase⟩,⟨4,.phase⟩,⟨5,.phase⟩],none⟩,⟨none,.store 3 (.tmp 41) (.tmp 38),0,"l02_fn.go:295",#[⟨8,.data⟩,⟨5,.data⟩,⟨4,.chain⟩,⟨0,.phase⟩,⟨1,.phase⟩,⟨2,.phase⟩,⟨3,.phase⟩,⟨4,.phase⟩,⟨5,.phase⟩],none⟩]
def TL_drawTo (C lo FB R0 g n cap b nn lb lcap:Nat)(vals:Int)(w0:World):List (Value→World→Prop) := [(fun v w=>v = .pointer (some ⟨FB,0,none⟩)),(fun v w=>v = .slice (some ⟨g,0,none⟩) n cap),(fun v w=>v = .int .i64 (b:Int)),(fun v w=>v = .pointer (some ⟨C,0,none⟩)),(fun v w=>∃z:Int,v = .int .i64 z),(fun v w=>∃z:Int,v = .int .i64 z),(fun v w=>v = .pointer (some ⟨g,b*6,none⟩)),(fun v w=>v = .pointer (some ⟨g,b*6+2,none⟩)),(fun v w=>v = .pointer (some ⟨g,b*6+4,none⟩))]
def TT_drawTo (C lo FB R0 g n cap b nn lb lcap:Nat)(vals:Int)(w0:World)(j:Nat)(v:Value)(w:World):Prop:=((TL_drawTo C lo FB R0 g n cap b nn lb lcap vals w0).getD j (fun _ _=>True)) v w
theorem ops_drawTo_acyc : ∀(i:Nat) (o:Oper),ops_drawTo[i]? = some o→∀e∈o.after,e.on<i:=by
 have h:(List.range 10).all (fun i=>match ops_drawTo[i]? with | some o=>o.after.all (fun e=>decide (e.on<i)) | none=>true)=true:=by kernel_rfl
 intro i o ho e he
 have hi:i<10:=(Array.getElem?_eq_some_iff.1 ho).1
 have:=List.all_eq_true.1 h i (List.mem_range.2 hi)
 rw[ho] at this
 simp only[Array.all_eq_true'] at this
 simpa using this e he
theorem ops_drawTo_plain : ∀(i:Nat) (o:Oper),ops_drawTo[i]? = some o→o.guard=none:=by
 have h:(List.range 10).all (fun i=>match ops_drawTo[i]? with | some o=>o.guard.isNone | none=>true)=true:=by kernel_rfl
 intro i o ho
 have hi:i<10:=(Array.getElem?_eq_some_iff.1 ho).1
 have:=List.all_eq_true.1 h i (List.mem_range.2 hi)
 rw[ho] at this
 simpa using this
theorem ops_drawTo_all : ∀li:Array Bool,Closed .any ops_drawTo li→(∀o,ops_drawTo[9]? = some o→∀e∈o.after,Region.binds .any e=true→li.getD e.on false=true)→∀j,j<9→li.getD j false=true:=by
 intro li hc hl
 have hlast:∀i,waitsFor .any ops_drawTo 9 i=true→li.getD i false=true:=fun i hi=>by
  obtain⟨e,he,hb,h2⟩:=waitsFor_spec hi (Array.getElem?_eq_getElem (by decide:9<ops_drawTo.size))
  rw[←h2]
  exact hl _ (Array.getElem?_eq_getElem (by decide:9<ops_drawTo.size)) e he hb
 have hback:∀j i,j<9→li.getD j false=true→waitsFor .any ops_drawTo j i=true→li.getD i false=true:=fun j i hj hjl hi=>by
  have hjs:j<ops_drawTo.size:=by show j<10;omega
  obtain⟨e,he,hb,h2⟩:=waitsFor_spec hi (Array.getElem?_eq_getElem hjs)
  rw[←h2]
  exact hc j _ (Array.getElem?_eq_getElem hjs) hjl e he hb
 have hone:∀i,i<9→(waitsFor .any ops_drawTo 9 i=true∨(∃k,k<9∧waitsFor .any ops_drawTo 9 k=true∧waitsFor .any ops_drawTo k i=true)∨∃k m,k<9∧m<9∧waitsFor .any ops_drawTo 9 m=true∧waitsFor .any ops_drawTo m k=true∧waitsFor .any ops_drawTo k i=true):=by
  have hall:(List.range 9).all (fun i=>waitsFor .any ops_drawTo 9 i || (List.range 9).any (fun k=>waitsFor .any ops_drawTo 9 k && waitsFor .any ops_drawTo k i) || (List.range 9).any (fun k=>(List.range 9).any (fun m=>waitsFor .any ops_drawTo 9 m && (waitsFor .any ops_drawTo m k && waitsFor .any ops_drawTo k i))))=true:=by kernel_rfl
  intro i hi
  have:=List.all_eq_true.1 hall i (List.mem_range.2 hi)
  simp only[Bool.or_eq_true,List.any_eq_true,List.mem_range,Bool.and_eq_true] at this
  rcases this with (h | ⟨k,hk,h1,h2⟩) | ⟨k,hk,m,hm,h1,h2,h3⟩
  ·exact .inl h
  ·exact .inr (.inl ⟨k,hk,h1,h2⟩)
  ·exact .inr (.inr ⟨k,m,hk,hm,h1,h2,h3⟩)
 intro j hj
 rcases hone j hj with h | ⟨k,hk,h1,h2⟩ | ⟨k,m,hk,hm,h1,h2,h3⟩
 ·exact hlast j h
 ·exact hback k j hk (hlast k h1) h2
 ·exact hback k j hk (hback m k hm (hlast m h1) h2) h3
theorem TT_drawTo_stab (C lo FB R0 g n cap b nn lb lcap:Nat)(vals:Int)(w0:World)(hC:C<lo):∀j v w w',TT_drawTo C lo FB R0 g n cap b nn lb lcap vals w0 j v w→Fr C w w'→TT_drawTo C lo FB R0 g n cap b nn lb lcap vals w0 j v w':=by
 intro j v w w' h hf
 have hk:=KeepLo.fr hf hC
 by_cases hj:j<9
 ·have hj':j=0∨j=1∨j=2∨j=3∨j=4∨j=5∨j=6∨j=7∨j=8:=by omega
  rcases hj' with rfl | rfl | rfl | rfl | rfl | rfl | rfl | rfl | rfl
  ·exact h
  ·exact h
  ·exact h
  ·exact h
  ·obtain⟨z,h1⟩:=h
   exact⟨z,h1⟩
  ·obtain⟨z,h1⟩:=h
   exact⟨z,h1⟩
  ·exact h
  ·exact h
  ·exact h
 ·unfold TT_drawTo at h ⊢
  have hlen:(TL_drawTo C lo FB R0 g n cap b nn lb lcap vals w0).length=9:=rfl
  rw[List.getD_eq_getElem?_getD,List.getElem?_eq_none (by omega)]
  trivial
set_option maxRecDepth 100000 in
set_option maxHeartbeats 16000000 in
theorem drawTo (C lo FB R0 g n cap b nn lb lcap:Nat)(vals:Int)(w0:World)(G:Nat)(B:List Bk)(x:Bk)(D:DSt w0 C lo G B)(gs:GenSt w0 C lo G (.slice (some ⟨g,0,none⟩) B.length cap) B vals)(hBn:B.length=n)(hb:b<n)(hx:B[b]? = some x)(fb:∃fv,w0.heap[FB]? = some (.cells #[.slice (some ⟨g,0,none⟩) n cap,.int .i64 vals] 26 fv))(hFC:FB≠C)(rb:∃c fv,w0.heap[R0]? = some (.cells c 26 fv))(hRC:R0≠C)(a0:Act)(hsz:a0.tmps.size=173)(h0:a0.eval (.tmp 0) = .pointer (some ⟨C,0,none⟩))(h3:a0.eval (.tmp 3) = .pointer (some ⟨FB,0,none⟩))(h4:a0.eval (.tmp 4) = .int .i64 (b:Int))(h5:a0.eval (.tmp 5) = .int .i64 (nn:Int))
  (Q:Exit→Act→World→Prop) (hQ:∀(f:Nat→Value) (W':World),(fun W=>ProgOk lo g n cap W∧W.heap[FB]? = w0.heap[FB]?∧W.heap[R0]? = w0.heap[R0]?∧Below C w0 W∧Cur W C) W'→Q .normal (putL a0 (List.range' 33 9) f) W') :
  wpAny Tryz.prog .any ops_drawTo Q 10 (Array.replicate 10 false) a0 w0:=by
 obtain⟨fv,fb⟩:=fb
 obtain⟨rc,rv,rb⟩:=rb
 have hFw:FB<w0.heap.size:=(Array.getElem?_eq_some_iff.1 fb).1
 have hRw:R0<w0.heap.size:=(Array.getElem?_eq_some_iff.1 rb).1
 have hfb:∀w,Cur w C∧Fr C w0 w→w.cell? ⟨FB,0,none⟩=some (.slice (some ⟨g,0,none⟩) n cap)∧w.cell? ⟨FB,1,none⟩=some (.int .i64 vals):=fun w hS=>⟨(hS.2.cell (x:=⟨FB,0,none⟩) hFw hFC).trans (by simp[World.cell?,fb]),(hS.2.cell (x:=⟨FB,1,none⟩) hFw hFC).trans (by simp[World.cell?,fb])⟩
 obtain⟨g0,cap0,e0,hlog,hgw,hgG,hgc,hgf⟩:=gs.at hx
 cases e0
 have hgC:g≠C:=by have:=D.hC;omega
 have hty:∀k c z,w0.heap[k]? = some (.cells c 26 z)→k≠g:=fun k c z hk e=>by
  obtain⟨c2,hc2⟩:=ownsRow_typed gs.row g rfl
  rw[e,hc2] at hk
  cases hk
 have hDS:∀w,Cur w C∧Fr C w0 w→DSt w C lo G B∧GenSt w C lo G (.slice (some ⟨g,0,none⟩) B.length cap) B vals:=fun w hS=>⟨D.draw hS.2 hS.1,gs.lo D.hG (KeepLo.fr hS.2 D.hC)⟩
 have hqw:∀w,Cur w C∧Fr C w0 w→∀j,j<6→∃u,w.cell? ⟨g,b*6+j,none⟩=some u∧w.frozen? ⟨g,b*6+j,none⟩=false:=fun w hS j hj=>by
  have h6:x.cells[j]? = some (x.cells[j]'(by simpa [Bk.cells] using hj)):=List.getElem?_eq_getElem _
  exact⟨_,(hS.2.cell (x:=⟨g,b*6+j,none⟩) hgw hgC).trans (hgc j _ hj h6),(hS.2.frozen (x:=⟨g,b*6+j,none⟩) hgw hgC).trans (hgf _)⟩
 refine wpAny_inv (N:=9) (s0:=33) (a0:=a0) (S:=fun w=>Cur w C∧Fr C w0 w) (R:=Fr C) (T:=TT_drawTo C lo FB R0 g n cap b nn lb lcap vals w0) (Post:=fun W=>ProgOk lo g n cap W∧W.heap[FB]? = w0.heap[FB]?∧W.heap[R0]? = w0.heap[R0]?∧Below C w0 W∧Cur W C)
  rfl (by omega) ops_drawTo_acyc ops_drawTo_plain ops_drawTo_all (TT_drawTo_stab C lo FB R0 g n cap b nn lb lcap vals w0 D.hC) ?hop ?hlast ?hQ 10 _ a0 w0 (by simp) ⟨by simp,fun j o ho hj=>?cl,rfl,rfl,fun _ _=>rfl,.inl ⟨by simp,⟨D.cur,Fr.refl _ _⟩,fun j hj hjl=>?nt⟩⟩
 case cl=>
  have:(Array.replicate 10 false).getD j false=false:=by simp[Array.getD]
  rw[this] at hj
  cases hj
 case nt=>
  have:(Array.replicate 10 false).getD j false=false:=by simp[Array.getD]
  rw[this] at hjl
  cases hjl
 case hQ=>
  intro a w e1 e2 e3 hP
  rw[act_fill e1 e2 e3]
  exact hQ _ w hP
 case hlast=>
  intro o ho a w es eo hS hT K hK
  obtain⟨_,rfl⟩:=Array.getElem?_eq_some_iff.1 ho
  have ev:∀t:Nat,t<33→a.eval (.tmp t)=a0.eval (.tmp t):=fun t ht=>by
   show a.tmps.getD t undef=a0.tmps.getD t undef
   rw[Array.getD_eq_getD_getElem?,Array.getD_eq_getD_getElem?,eo t (.inl ht)]
  obtain⟨z,d0⟩:=hT 5 (by omega)
  have d1:=hT 8 (by omega)
  obtain⟨u,q,r⟩:=hqw w hS 4 (by omega)
  obtain⟨dw,gw⟩:=hDS w hS
  have gst:=(gw.but b).setCell (b' := { x with t:=z }) (j:=4) (u := .int .i64 z) hx (by omega) rfl (gw.ins b x hx) (gw.phi b x hx) (fun m y hm hy=>⟨gw.apL b m x y (fun e=>hm e.symm) hx hy,gw.apL m b y x hm hy hx⟩) (fun m y hm hy=>⟨gw.apP b m x y (fun e=>hm e.symm) hx hy,gw.apP m b y x hm hy hx⟩)
  refine wp_skip_of (run_storeOp rfl d1 d0 (run_store_int q r z)) (hK _ ⟨gst.prog (by rw[List.length_set];exact hBn) (by rw[hBn]),?_,?_,?_,hS.1.below D.hC ((Below.refl lo w).setCell (p:=⟨g,b*6+4,none⟩) hlog _)⟩)
  ·exact(Below.heap_setCell _ _ _ FB (hty FB _ _ fb)).trans (hS.2.block FB hFw hFC)
  ·exact(Below.heap_setCell _ _ _ R0 (hty R0 _ _ rb)).trans (hS.2.block R0 hRw hRC)
  ·exact(hS.2.belowAt (Nat.le_of_lt D.cur.lt)).trans ((Below.refl C w).setCell (p:=⟨g,b*6+4,none⟩) (by show C≤g;have:=D.hC;omega) _)
 case hop=>
  intro j hj o ho a w es eo hS hT K hK
  have ev:∀t:Nat,t<33→a.eval (.tmp t)=a0.eval (.tmp t):=fun t ht=>by
   show a.tmps.getD t undef=a0.tmps.getD t undef
   rw[Array.getD_eq_getD_getElem?,Array.getD_eq_getD_getElem?,eo t (.inl ht)]
  have hj':j=0∨j=1∨j=2∨j=3∨j=4∨j=5∨j=6∨j=7∨j=8:=by omega
  rcases hj' with rfl | rfl | rfl | rfl | rfl | rfl | rfl | rfl | rfl
  ·obtain⟨_,rfl⟩:=Array.getElem?_eq_some_iff.1 ho
   exact wp_field rfl ((ev 3 (by omega)).trans h3) (run_field_fn0 FB 0 w) (hK _ _ (Fr.refl C w) hS rfl)
  ·obtain⟨_,rfl⟩:=Array.getElem?_eq_some_iff.1 ho
   have d0:=hT 0 (by omega) (by kernel_rfl)
   exact wp_load rfl d0 (run_load_blocks0 (hfb w hS).1) (hK _ _ (Fr.refl C w) hS rfl)
  ·obtain⟨_,rfl⟩:=Array.getElem?_eq_some_iff.1 ho
   exact wp_move rfl ((ev 4 (by omega)).trans h4) (hK _ _ (Fr.refl C w) hS rfl)
  ·obtain⟨_,rfl⟩:=Array.getElem?_eq_some_iff.1 ho
   exact wp_move rfl ((ev 0 (by omega)).trans h0) (hK _ _ (Fr.refl C w) hS rfl)
  ·obtain⟨_,rfl⟩:=Array.getElem?_eq_some_iff.1 ho
   have d0:=hT 3 (by omega) (by kernel_rfl)
   refine wp_call_of (f:=83) (args := #[.pointer (some ⟨C,0,none⟩),.int .i64 18]) (runCall2 (y := .const (.int .i64 18)) rfl d0 rfl (enters_of Tryz.func83 (by kernel_rfl) rfl) _) (below_any C 18 w hS.1) ?_
   rintro e w1 ⟨z,rfl,_,_,_,hf,hc⟩
   exact⟨_,rfl,hK _ _ hf ⟨hc,hS.2.trans hf⟩ ⟨z,rfl⟩⟩
  ·obtain⟨_,rfl⟩:=Array.getElem?_eq_some_iff.1 ho
   obtain⟨z0,d0⟩:=hT 4 (by omega) (by kernel_rfl)
   obtain⟨z,hz⟩:=run_subOp (o:=ops_drawTo[5]) rfl d0 w
   exact wp_value_of hz (hK _ _ (Fr.refl C w) hS ⟨z,rfl⟩)
  ·obtain⟨_,rfl⟩:=Array.getElem?_eq_some_iff.1 ho
   have d0:=hT 1 (by omega) (by kernel_rfl)
   have d1:=hT 2 (by omega) (by kernel_rfl)
   exact wp_index rfl d0 d1 (run_index_block hb w) (hK _ _ (Fr.refl C w) hS rfl)
  ·obtain⟨_,rfl⟩:=Array.getElem?_eq_some_iff.1 ho
   have d0:=hT 6 (by omega) (by kernel_rfl)
   exact wp_field rfl d0 (run_field_block2 g (b*6) w) (hK _ _ (Fr.refl C w) hS rfl)
  ·obtain⟨_,rfl⟩:=Array.getElem?_eq_some_iff.1 ho
   have d0:=hT 7 (by omega) (by kernel_rfl)
   exact wp_field rfl d0 (run_field_term2 g (b*6) w) (hK _ _ (Fr.refl C w) hS rfl)
def ops_drawTerm : Array Oper := #[⟨some 44,.fieldAddr 26 (.tmp 3) 0,0,"l02_fn.go:297",#[],none⟩,⟨some 45,.load 24 (.tmp 44),24,"l02_fn.go:297",#[⟨0,.data⟩],none⟩,⟨some 46,.move (.tmp 4),3,"l02_fn.go:297",#[],none⟩,⟨some 47,.move (.tmp 0),66,"l02_fn.go:297",#[],none⟩,⟨some 48,.call ⟨.value (.func 83),#[.tmp 47,.const (.int .i64 5)],#[66,3]⟩,3,"l02_fn.go:297",#[⟨3,.data⟩],none⟩,⟨some 49,.move (.tmp 0),66,"l02_fn.go:297",#[],none⟩,⟨some 50,.call ⟨.value (.func 83),#[.tmp 49,.const (.int .i64 5)],#[66,3]⟩,3,"l02_fn.go:297",#[⟨5,.data⟩,⟨4,.chain⟩],none⟩,⟨some 51,.move (.tmp 0),66,"l02_fn.go:297",#[],none⟩,⟨some 52,.fieldAddr 26 (.tmp 3) 0,0,"l02_fn.go:297",#[],none⟩,⟨some 53,.load 24 (.tmp 52),24,"l02_fn.go:297",#[⟨8,.data⟩],none⟩,⟨some 54,.call ⟨.builtin .len,#[.tmp 53],#[24]⟩,3,"l02_fn.go:297",#[⟨9,.data⟩],none⟩,⟨some 55,.call ⟨.value (.func 83),#[.tmp 51,.tmp 54],#[66,3]⟩,3,"l02_fn.go:297",#[⟨7,.data⟩,⟨10,.data⟩,⟨6,.chain⟩],none⟩,⟨some 56,.move (.tmp 0),66,"l02_fn.go:297",#[],none⟩,⟨some 57,.fieldAddr 26 (.tmp 3) 0,0,"l02_fn.go:297",#[],none⟩,⟨some 58,.load 24 (.tmp 57),24,"l02_fn.go:297",#[⟨13,.data⟩],none⟩,⟨some 59,.call ⟨.builtin .len,#[.tmp 58],#[24]⟩,3,"l02_fn.go:297",#[⟨14,.data⟩],none⟩,⟨some 60,.call ⟨.value (.func 83),#[.tmp 56,.tmp 59],#[66,3]⟩,3,"l02_fn.go:297",#[⟨12,.data⟩,⟨15,.data⟩,⟨11,.chain⟩],none⟩,⟨some 61,.build 42 #[(0,.tmp 48),(1,.tmp 50),(2,.tmp 55),(3,.tmp 60)],42,"l02_fn.go:297",#[⟨4,.data⟩,⟨6,.data⟩,⟨11,.data⟩,⟨16,.data⟩],none⟩,⟨some 62,.indexAddr 24 (.tmp 45) (.tmp 46),0,"l02_fn.go:297",#[⟨1,.data⟩,⟨2,.data⟩,⟨0,.phase⟩,⟨1,.phase⟩,⟨2,.phase⟩,⟨3,.phase⟩,⟨4,.phase⟩,⟨5,.phase⟩,⟨6,.phase⟩,⟨7,.phase⟩,⟨8,.phase⟩,⟨9,.phase⟩,⟨10,.phase⟩,⟨11,.phase⟩,⟨12,.phase⟩,⟨13,.phase⟩,⟨14,.phase⟩,⟨15,.phase⟩,⟨16,.phase⟩,⟨17,.phase⟩],none⟩,⟨some 63,.fieldAddr 44 (.tmp 62) 2,0,"l02_fn.go:297",#[⟨18,.data⟩,⟨0,.phase⟩,⟨1,.phase⟩,⟨2,.phase⟩,⟨3,.phase⟩,⟨4,.phase⟩,⟨5,.phase⟩,⟨6,.phase⟩,⟨7,.phase⟩,⟨8,.phase⟩,⟨9,.phase⟩,⟨10,.phase⟩,⟨11,.phase⟩,⟨12,.phase⟩,⟨13,.phase⟩,⟨14,.phase⟩,⟨15,.phase⟩,⟨16,.phase⟩,⟨17,.phase⟩],none⟩,⟨none,.store 42 (.tmp 63) (.tmp 61),0,"l02_fn.go:297",#[⟨19,.data⟩,⟨17,.data⟩,⟨16,.chain⟩,⟨0,.phase⟩,⟨1,.phase⟩,⟨2,.phase⟩,⟨3,.phase⟩,⟨4,.phase⟩,⟨5,.phase⟩,⟨6,.phase⟩,⟨7,.phase⟩,⟨8,.phase⟩,⟨9,.phase⟩,⟨10,.phase⟩,⟨11,.phase⟩,⟨12,.phase⟩,⟨13,.phase⟩,⟨14,.phase⟩,⟨15,.phase⟩,⟨16,.phase⟩,⟨17,.phase⟩],none⟩]
def TL_drawTerm (C lo FB R0 g n cap b nn lb lcap:Nat)(vals:Int)(w0:World):List (Value→World→Prop) := [(fun v w=>v = .pointer (some ⟨FB,0,none⟩)),(fun v w=>v = .slice (some ⟨g,0,none⟩) n cap),(fun v w=>v = .int .i64 (b:Int)),(fun v w=>v = .pointer (some ⟨C,0,none⟩)),(fun v w=>∃z:Int,v = .int .i64 z),(fun v w=>v = .pointer (some ⟨C,0,none⟩)),(fun v w=>∃z:Int,v = .int .i64 z),(fun v w=>v = .pointer (some ⟨C,0,none⟩)),(fun v w=>v = .pointer (some ⟨FB,0,none⟩)),(fun v w=>v = .slice (some ⟨g,0,none⟩) n cap),(fun v w=>v = .int .i64 (n:Int)),(fun v w=>∃z:Int,v = .int .i64 z),(fun v w=>v = .pointer (some ⟨C,0,none⟩)),(fun v w=>v = .pointer (some ⟨FB,0,none⟩)),(fun v w=>v = .slice (some ⟨g,0,none⟩) n cap),(fun v w=>v = .int .i64 (n:Int)),(fun v w=>∃z:Int,v = .int .i64 z),(fun v w=>∃z0 z1 z2 z3:Int,v = .agg #[.int .i64 z0,.int .i64 z1,.int .i64 z2,.int .i64 z3]),(fun v w=>v = .pointer (some ⟨g,b*6,none⟩)),(fun v w=>v = .pointer (some ⟨g,b*6+2,none⟩))]
def TT_drawTerm (C lo FB R0 g n cap b nn lb lcap:Nat)(vals:Int)(w0:World)(j:Nat)(v:Value)(w:World):Prop:=((TL_drawTerm C lo FB R0 g n cap b nn lb lcap vals w0).getD j (fun _ _=>True)) v w
theorem ops_drawTerm_acyc : ∀(i:Nat) (o:Oper),ops_drawTerm[i]? = some o→∀e∈o.after,e.on<i:=by
 have h:(List.range 21).all (fun i=>match ops_drawTerm[i]? with | some o=>o.after.all (fun e=>decide (e.on<i)) | none=>true)=true:=by kernel_rfl
 intro i o ho e he
 have hi:i<21:=(Array.getElem?_eq_some_iff.1 ho).1
 have:=List.all_eq_true.1 h i (List.mem_range.2 hi)
 rw[ho] at this
 simp only[Array.all_eq_true'] at this
 simpa using this e he
theorem ops_drawTerm_plain : ∀(i:Nat) (o:Oper),ops_drawTerm[i]? = some o→o.guard=none:=by
 have h:(List.range 21).all (fun i=>match ops_drawTerm[i]? with | some o=>o.guard.isNone | none=>true)=true:=by kernel_rfl
 intro i o ho
 have hi:i<21:=(Array.getElem?_eq_some_iff.1 ho).1
 have:=List.all_eq_true.1 h i (List.mem_range.2 hi)
 rw[ho] at this
 simpa using this
theorem ops_drawTerm_all : ∀li:Array Bool,Closed .any ops_drawTerm li→(∀o,ops_drawTerm[20]? = some o→∀e∈o.after,Region.binds .any e=true→li.getD e.on false=true)→∀j,j<20→li.getD j false=true:=by
 intro li hc hl
 have hlast:∀i,waitsFor .any ops_drawTerm 20 i=true→li.getD i false=true:=fun i hi=>by
  obtain⟨e,he,hb,h2⟩:=waitsFor_spec hi (Array.getElem?_eq_getElem (by decide:20<ops_drawTerm.size))
  rw[←h2]
  exact hl _ (Array.getElem?_eq_getElem (by decide:20<ops_drawTerm.size)) e he hb
 have hback:∀j i,j<20→li.getD j false=true→waitsFor .any ops_drawTerm j i=true→li.getD i false=true:=fun j i hj hjl hi=>by
  have hjs:j<ops_drawTerm.size:=by show j<21;omega
  obtain⟨e,he,hb,h2⟩:=waitsFor_spec hi (Array.getElem?_eq_getElem hjs)
  rw[←h2]
  exact hc j _ (Array.getElem?_eq_getElem hjs) hjl e he hb
 have hone:∀i,i<20→(waitsFor .any ops_drawTerm 20 i=true∨(∃k,k<20∧waitsFor .any ops_drawTerm 20 k=true∧waitsFor .any ops_drawTerm k i=true)∨∃k m,k<20∧m<20∧waitsFor .any ops_drawTerm 20 m=true∧waitsFor .any ops_drawTerm m k=true∧waitsFor .any ops_drawTerm k i=true):=by
  have hall:(List.range 20).all (fun i=>waitsFor .any ops_drawTerm 20 i || (List.range 20).any (fun k=>waitsFor .any ops_drawTerm 20 k && waitsFor .any ops_drawTerm k i) || (List.range 20).any (fun k=>(List.range 20).any (fun m=>waitsFor .any ops_drawTerm 20 m && (waitsFor .any ops_drawTerm m k && waitsFor .any ops_drawTerm k i))))=true:=by kernel_rfl
  intro i hi
  have:=List.all_eq_true.1 hall i (List.mem_range.2 hi)
  simp only[Bool.or_eq_true,List.any_eq_true,List.mem_range,Bool.and_eq_true] at this
  rcases this with (h | ⟨k,hk,h1,h2⟩) | ⟨k,hk,m,hm,h1,h2,h3⟩
  ·exact .inl h
  ·exact .inr (.inl ⟨k,hk,h1,h2⟩)
  ·exact .inr (.inr ⟨k,m,hk,hm,h1,h2,h3⟩)
 intro j hj
 rcases hone j hj with h | ⟨k,hk,h1,h2⟩ | ⟨k,m,hk,hm,h1,h2,h3⟩
 ·exact hlast j h
 ·exact hback k j hk (hlast k h1) h2
 ·exact hback k j hk (hback m k hm (hlast m h1) h2) h3
theorem TT_drawTerm_stab (C lo FB R0 g n cap b nn lb lcap:Nat)(vals:Int)(w0:World)(hC:C<lo):∀j v w w',TT_drawTerm C lo FB R0 g n cap b nn lb lcap vals w0 j v w→Fr C w w'→TT_drawTerm C lo FB R0 g n cap b nn lb lcap vals w0 j v w':=by
 intro j v w w' h hf
 have hk:=KeepLo.fr hf hC
 by_cases hj:j<20
 ·have hj':j=0∨j=1∨j=2∨j=3∨j=4∨j=5∨j=6∨j=7∨j=8∨j=9∨j=10∨j=11∨j=12∨j=13∨j=14∨j=15∨j=16∨j=17∨j=18∨j=19:=by omega
  rcases hj' with rfl | rfl | rfl | rfl | rfl | rfl | rfl | rfl | rfl | rfl | rfl | rfl | rfl | rfl | rfl | rfl | rfl | rfl | rfl | rfl
  ·exact h
  ·exact h
  ·exact h
  ·exact h
  ·obtain⟨z,h1⟩:=h
   exact⟨z,h1⟩
  ·exact h
  ·obtain⟨z,h1⟩:=h
   exact⟨z,h1⟩
  ·exact h
  ·exact h
  ·exact h
  ·exact h
  ·obtain⟨z,h1⟩:=h
   exact⟨z,h1⟩
  ·exact h
  ·exact h
  ·exact h
  ·exact h
  ·obtain⟨z,h1⟩:=h
   exact⟨z,h1⟩
  ·obtain⟨z0,z1,z2,z3,h1⟩:=h
   exact⟨z0,z1,z2,z3,h1⟩
  ·exact h
  ·exact h
 ·unfold TT_drawTerm at h ⊢
  have hlen:(TL_drawTerm C lo FB R0 g n cap b nn lb lcap vals w0).length=20:=rfl
  rw[List.getD_eq_getElem?_getD,List.getElem?_eq_none (by omega)]
  trivial
set_option maxRecDepth 100000 in
set_option maxHeartbeats 16000000 in
theorem drawTerm (C lo FB R0 g n cap b nn lb lcap:Nat)(vals:Int)(w0:World)(G:Nat)(B:List Bk)(x:Bk)(D:DSt w0 C lo G B)(gs:GenSt w0 C lo G (.slice (some ⟨g,0,none⟩) B.length cap) B vals)(hBn:B.length=n)(hb:b<n)(hx:B[b]? = some x)(fb:∃fv,w0.heap[FB]? = some (.cells #[.slice (some ⟨g,0,none⟩) n cap,.int .i64 vals] 26 fv))(hFC:FB≠C)(rb:∃c fv,w0.heap[R0]? = some (.cells c 26 fv))(hRC:R0≠C)(a0:Act)(hsz:a0.tmps.size=173)(h0:a0.eval (.tmp 0) = .pointer (some ⟨C,0,none⟩))(h3:a0.eval (.tmp 3) = .pointer (some ⟨FB,0,none⟩))(h4:a0.eval (.tmp 4) = .int .i64 (b:Int))(h5:a0.eval (.tmp 5) = .int .i64 (nn:Int))
  (Q:Exit→Act→World→Prop) (hQ:∀(f:Nat→Value) (W':World),(fun W=>ProgOk lo g n cap W∧W.heap[FB]? = w0.heap[FB]?∧W.heap[R0]? = w0.heap[R0]?∧Below C w0 W∧Cur W C) W'→Q .normal (putL a0 (List.range' 44 20) f) W') :
  wpAny Tryz.prog .any ops_drawTerm Q 21 (Array.replicate 21 false) a0 w0:=by
 obtain⟨fv,fb⟩:=fb
 obtain⟨rc,rv,rb⟩:=rb
 have hFw:FB<w0.heap.size:=(Array.getElem?_eq_some_iff.1 fb).1
 have hRw:R0<w0.heap.size:=(Array.getElem?_eq_some_iff.1 rb).1
 have hfb:∀w,Cur w C∧Fr C w0 w→w.cell? ⟨FB,0,none⟩=some (.slice (some ⟨g,0,none⟩) n cap)∧w.cell? ⟨FB,1,none⟩=some (.int .i64 vals):=fun w hS=>⟨(hS.2.cell (x:=⟨FB,0,none⟩) hFw hFC).trans (by simp[World.cell?,fb]),(hS.2.cell (x:=⟨FB,1,none⟩) hFw hFC).trans (by simp[World.cell?,fb])⟩
 obtain⟨g0,cap0,e0,hlog,hgw,hgG,hgc,hgf⟩:=gs.at hx
 cases e0
 have hgC:g≠C:=by have:=D.hC;omega
 have hty:∀k c z,w0.heap[k]? = some (.cells c 26 z)→k≠g:=fun k c z hk e=>by
  obtain⟨c2,hc2⟩:=ownsRow_typed gs.row g rfl
  rw[e,hc2] at hk
  cases hk
 have hDS:∀w,Cur w C∧Fr C w0 w→DSt w C lo G B∧GenSt w C lo G (.slice (some ⟨g,0,none⟩) B.length cap) B vals:=fun w hS=>⟨D.draw hS.2 hS.1,gs.lo D.hG (KeepLo.fr hS.2 D.hC)⟩
 have hqw:∀w,Cur w C∧Fr C w0 w→∀j,j<6→∃u,w.cell? ⟨g,b*6+j,none⟩=some u∧w.frozen? ⟨g,b*6+j,none⟩=false:=fun w hS j hj=>by
  have h6:x.cells[j]? = some (x.cells[j]'(by simpa [Bk.cells] using hj)):=List.getElem?_eq_getElem _
  exact⟨_,(hS.2.cell (x:=⟨g,b*6+j,none⟩) hgw hgC).trans (hgc j _ hj h6),(hS.2.frozen (x:=⟨g,b*6+j,none⟩) hgw hgC).trans (hgf _)⟩
 refine wpAny_inv (N:=20) (s0:=44) (a0:=a0) (S:=fun w=>Cur w C∧Fr C w0 w) (R:=Fr C) (T:=TT_drawTerm C lo FB R0 g n cap b nn lb lcap vals w0) (Post:=fun W=>ProgOk lo g n cap W∧W.heap[FB]? = w0.heap[FB]?∧W.heap[R0]? = w0.heap[R0]?∧Below C w0 W∧Cur W C)
  rfl (by omega) ops_drawTerm_acyc ops_drawTerm_plain ops_drawTerm_all (TT_drawTerm_stab C lo FB R0 g n cap b nn lb lcap vals w0 D.hC) ?hop ?hlast ?hQ 21 _ a0 w0 (by simp) ⟨by simp,fun j o ho hj=>?cl,rfl,rfl,fun _ _=>rfl,.inl ⟨by simp,⟨D.cur,Fr.refl _ _⟩,fun j hj hjl=>?nt⟩⟩
 case cl=>
  have:(Array.replicate 21 false).getD j false=false:=by simp[Array.getD]
  rw[this] at hj
  cases hj
 case nt=>
  have:(Array.replicate 21 false).getD j false=false:=by simp[Array.getD]
  rw[this] at hjl
  cases hjl
 case hQ=>
  intro a w e1 e2 e3 hP
  rw[act_fill e1 e2 e3]
  exact hQ _ w hP
 case hlast=>
  intro o ho a w es eo hS hT K hK
  obtain⟨_,rfl⟩:=Array.getElem?_eq_some_iff.1 ho
  have ev:∀t:Nat,t<44→a.eval (.tmp t)=a0.eval (.tmp t):=fun t ht=>by
   show a.tmps.getD t undef=a0.tmps.getD t undef
   rw[Array.getD_eq_getD_getElem?,Array.getD_eq_getD_getElem?,eo t (.inl ht)]
  obtain⟨z0,z1,z2,z3,d0⟩:=hT 17 (by omega)
  have d1:=hT 19 (by omega)
  obtain⟨u2,q2,f2⟩:=hqw w hS 2 (by omega)
  obtain⟨u3,q3,f3⟩:=hqw w hS 3 (by omega)
  obtain⟨u4,q4,f4⟩:=hqw w hS 4 (by omega)
  obtain⟨u5,q5,f5⟩:=hqw w hS 5 (by omega)
  obtain⟨dw,gw⟩:=hDS w hS
  have gst:=gw.setTerm hx z0 z1 z2 z3
  have hfr:=(dw.setTerm gw hx z0 z1 z2 z3).2
  refine wp_skip_of (run_storeOp rfl d1 d0 (run_store_term q2 q3 q4 q5 f2 f3 f4 f5 _ _ _ _)) (hK _ ⟨gst.prog (by rw[List.length_set];exact hBn) (by rw[hBn]),?_,?_,?_,(dw.setTerm gw hx z0 z1 z2 z3).1.cur⟩)
  ·rw[Below.heap_setCell _ _ _ FB (hty FB _ _ fb),Below.heap_setCell _ _ _ FB (hty FB _ _ fb),Below.heap_setCell _ _ _ FB (hty FB _ _ fb),Below.heap_setCell _ _ _ FB (hty FB _ _ fb)]
   exact hS.2.block FB hFw hFC
  ·rw[Below.heap_setCell _ _ _ R0 (hty R0 _ _ rb),Below.heap_setCell _ _ _ R0 (hty R0 _ _ rb),Below.heap_setCell _ _ _ R0 (hty R0 _ _ rb),Below.heap_setCell _ _ _ R0 (hty R0 _ _ rb)]
   exact hS.2.block R0 hRw hRC
  ·exact(hS.2.belowAt (Nat.le_of_lt D.cur.lt)).trans hfr.bel
 case hop=>
  intro j hj o ho a w es eo hS hT K hK
  have ev:∀t:Nat,t<44→a.eval (.tmp t)=a0.eval (.tmp t):=fun t ht=>by
   show a.tmps.getD t undef=a0.tmps.getD t undef
   rw[Array.getD_eq_getD_getElem?,Array.getD_eq_getD_getElem?,eo t (.inl ht)]
  have hj':j=0∨j=1∨j=2∨j=3∨j=4∨j=5∨j=6∨j=7∨j=8∨j=9∨j=10∨j=11∨j=12∨j=13∨j=14∨j=15∨j=16∨j=17∨j=18∨j=19:=by omega
  rcases hj' with rfl | rfl | rfl | rfl | rfl | rfl | rfl | rfl | rfl | rfl | rfl | rfl | rfl | rfl | rfl | rfl | rfl | rfl | rfl | rfl
  ·obtain⟨_,rfl⟩:=Array.getElem?_eq_some_iff.1 ho
   exact wp_field rfl ((ev 3 (by omega)).trans h3) (run_field_fn0 FB 0 w) (hK _ _ (Fr.refl C w) hS rfl)
  ·obtain⟨_,rfl⟩:=Array.getElem?_eq_some_iff.1 ho
   have d0:=hT 0 (by omega) (by kernel_rfl)
   exact wp_load rfl d0 (run_load_blocks0 (hfb w hS).1) (hK _ _ (Fr.refl C w) hS rfl)
  ·obtain⟨_,rfl⟩:=Array.getElem?_eq_some_iff.1 ho
   exact wp_move rfl ((ev 4 (by omega)).trans h4) (hK _ _ (Fr.refl C w) hS rfl)
  ·obtain⟨_,rfl⟩:=Array.getElem?_eq_some_iff.1 ho
   exact wp_move rfl ((ev 0 (by omega)).trans h0) (hK _ _ (Fr.refl C w) hS rfl)
  ·obtain⟨_,rfl⟩:=Array.getElem?_eq_some_iff.1 ho
   have d0:=hT 3 (by omega) (by kernel_rfl)
   refine wp_call_of (f:=83) (args := #[.pointer (some ⟨C,0,none⟩),.int .i64 5]) (runCall2 (y := .const (.int .i64 5)) rfl d0 rfl (enters_of Tryz.func83 (by kernel_rfl) rfl) _) (below_any C 5 w hS.1) ?_
   rintro e w1 ⟨z,rfl,_,_,_,hf,hc⟩
   exact⟨_,rfl,hK _ _ hf ⟨hc,hS.2.trans hf⟩ ⟨z,rfl⟩⟩
  ·obtain⟨_,rfl⟩:=Array.getElem?_eq_some_iff.1 ho
   exact wp_move rfl ((ev 0 (by omega)).trans h0) (hK _ _ (Fr.refl C w) hS rfl)
  ·obtain⟨_,rfl⟩:=Array.getElem?_eq_some_iff.1 ho
   have d0:=hT 5 (by omega) (by kernel_rfl)
   refine wp_call_of (f:=83) (args := #[.pointer (some ⟨C,0,none⟩),.int .i64 5]) (runCall2 (y := .const (.int .i64 5)) rfl d0 rfl (enters_of Tryz.func83 (by kernel_rfl) rfl) _) (below_any C 5 w hS.1) ?_
   rintro e w1 ⟨z,rfl,_,_,_,hf,hc⟩
   exact⟨_,rfl,hK _ _ hf ⟨hc,hS.2.trans hf⟩ ⟨z,rfl⟩⟩
  ·obtain⟨_,rfl⟩:=Array.getElem?_eq_some_iff.1 ho
   exact wp_move rfl ((ev 0 (by omega)).trans h0) (hK _ _ (Fr.refl C w) hS rfl)
  ·obtain⟨_,rfl⟩:=Array.getElem?_eq_some_iff.1 ho
   exact wp_field rfl ((ev 3 (by omega)).trans h3) (run_field_fn0 FB 0 w) (hK _ _ (Fr.refl C w) hS rfl)
  ·obtain⟨_,rfl⟩:=Array.getElem?_eq_some_iff.1 ho
   have d0:=hT 8 (by omega) (by kernel_rfl)
   exact wp_load rfl d0 (run_load_blocks0 (hfb w hS).1) (hK _ _ (Fr.refl C w) hS rfl)
  ·obtain⟨_,rfl⟩:=Array.getElem?_eq_some_iff.1 ho
   have d0:=hT 9 (by omega) (by kernel_rfl)
   exact wp_value_of (run_lenOp rfl d0 w) (hK _ _ (Fr.refl C w) hS rfl)
  ·obtain⟨_,rfl⟩:=Array.getElem?_eq_some_iff.1 ho
   have d0:=hT 7 (by omega) (by kernel_rfl)
   have d1:=hT 10 (by omega) (by kernel_rfl)
   refine wp_call_of (f:=83) (args := #[.pointer (some ⟨C,0,none⟩),.int .i64 (n:Int)]) (runCall2 rfl d0 d1 (enters_of Tryz.func83 (by kernel_rfl) rfl) _) (below_any C _ w hS.1) ?_
   rintro e w1 ⟨z,rfl,_,_,_,hf,hc⟩
   exact⟨_,rfl,hK _ _ hf ⟨hc,hS.2.trans hf⟩ ⟨z,rfl⟩⟩
  ·obtain⟨_,rfl⟩:=Array.getElem?_eq_some_iff.1 ho
   exact wp_move rfl ((ev 0 (by omega)).trans h0) (hK _ _ (Fr.refl C w) hS rfl)
  ·obtain⟨_,rfl⟩:=Array.getElem?_eq_some_iff.1 ho
   exact wp_field rfl ((ev 3 (by omega)).trans h3) (run_field_fn0 FB 0 w) (hK _ _ (Fr.refl C w) hS rfl)
  ·obtain⟨_,rfl⟩:=Array.getElem?_eq_some_iff.1 ho
   have d0:=hT 13 (by omega) (by kernel_rfl)
   exact wp_load rfl d0 (run_load_blocks0 (hfb w hS).1) (hK _ _ (Fr.refl C w) hS rfl)
  ·obtain⟨_,rfl⟩:=Array.getElem?_eq_some_iff.1 ho
   have d0:=hT 14 (by omega) (by kernel_rfl)
   exact wp_value_of (run_lenOp rfl d0 w) (hK _ _ (Fr.refl C w) hS rfl)
  ·obtain⟨_,rfl⟩:=Array.getElem?_eq_some_iff.1 ho
   have d0:=hT 12 (by omega) (by kernel_rfl)
   have d1:=hT 15 (by omega) (by kernel_rfl)
   refine wp_call_of (f:=83) (args := #[.pointer (some ⟨C,0,none⟩),.int .i64 (n:Int)]) (runCall2 rfl d0 d1 (enters_of Tryz.func83 (by kernel_rfl) rfl) _) (below_any C _ w hS.1) ?_
   rintro e w1 ⟨z,rfl,_,_,_,hf,hc⟩
   exact⟨_,rfl,hK _ _ hf ⟨hc,hS.2.trans hf⟩ ⟨z,rfl⟩⟩
  ·obtain⟨_,rfl⟩:=Array.getElem?_eq_some_iff.1 ho
   obtain⟨z0,d0⟩:=hT 4 (by omega) (by kernel_rfl)
   obtain⟨z1,d1⟩:=hT 6 (by omega) (by kernel_rfl)
   obtain⟨z2,d2⟩:=hT 11 (by omega) (by kernel_rfl)
   obtain⟨z3,d3⟩:=hT 16 (by omega) (by kernel_rfl)
   exact wp_value_of (run_buildTerm4 rfl d0 d1 d2 d3 w) (hK _ _ (Fr.refl C w) hS ⟨z0,z1,z2,z3,rfl⟩)
  ·obtain⟨_,rfl⟩:=Array.getElem?_eq_some_iff.1 ho
   have d0:=hT 1 (by omega) (by kernel_rfl)
   have d1:=hT 2 (by omega) (by kernel_rfl)
   exact wp_index rfl d0 d1 (run_index_block hb w) (hK _ _ (Fr.refl C w) hS rfl)
  ·obtain⟨_,rfl⟩:=Array.getElem?_eq_some_iff.1 ho
   have d0:=hT 18 (by omega) (by kernel_rfl)
   exact wp_field rfl d0 (run_field_block2 g (b*6) w) (hK _ _ (Fr.refl C w) hS rfl)
def ops_drawA : Array Oper := #[⟨some 68,.fieldAddr 26 (.tmp 3) 0,0,"l02_fn.go:300",#[],none⟩,⟨some 69,.load 24 (.tmp 68),24,"l02_fn.go:300",#[⟨0,.data⟩],none⟩,⟨some 70,.move (.tmp 4),3,"l02_fn.go:300",#[],none⟩,⟨some 71,.indexAddr 24 (.tmp 69) (.tmp 70),0,"l02_fn.go:300",#[⟨1,.data⟩,⟨2,.data⟩],none⟩,⟨some 72,.fieldAddr 44 (.tmp 71) 1,0,"l02_fn.go:300",#[⟨3,.data⟩],none⟩,⟨some 73,.load 40 (.tmp 72),40,"l02_fn.go:300",#[⟨4,.data⟩],none⟩,⟨some 74,.move (.tmp 0),66,"l02_fn.go:300",#[],none⟩,⟨some 75,.move (.tmp 5),3,"l02_fn.go:300",#[],none⟩,⟨some 76,.call ⟨.value (.func 83),#[.tmp 74,.tmp 75],#[66,3]⟩,3,"l02_fn.go:300",#[⟨6,.data⟩,⟨7,.data⟩],none⟩,⟨some 77,.move (.tmp 0),66,"l02_fn.go:300",#[],none⟩,⟨some 78,.fieldAddr 26 (.tmp 3) 1,0,"l02_fn.go:300",#[],none⟩,⟨some 79,.load 3 (.tmp 78),3,"l02_fn.go:300",#[⟨10,.data⟩],none⟩,⟨some 80,.binOp .add 3 (.tmp 79) (.const (.int .i64 1)) 3,3,"l02_fn.go:300",#[⟨11,.data⟩],none⟩,⟨some 81,.call ⟨.value (.func 83),#[.tmp 77,.tmp 80],#[66,3]⟩,3,"l02_fn.go:300",#[⟨9,.data⟩,⟨12,.data⟩,⟨8,.chain⟩],none⟩,⟨some 82,.indexAddr 40 (.tmp 73) (.tmp 76),0,"l02_fn.go:300",#[⟨5,.data⟩,⟨8,.data⟩,⟨0,.phase⟩,⟨1,.phase⟩,⟨2,.phase⟩,⟨3,.phase⟩,⟨4,.phase⟩,⟨5,.phase⟩,⟨6,.phase⟩,⟨7,.phase⟩,⟨8,.phase⟩,⟨9,.phase⟩,⟨10,.phase⟩,⟨11,.phase⟩,⟨12,.phase⟩,⟨13,.phase⟩],none⟩,⟨some 83,.fieldAddr 46 (.tmp 82) 2,0,"l02_fn.go:300",#[⟨14,.data⟩,⟨0,.phase⟩,⟨1,.phase⟩,⟨2,.phase⟩,⟨3,.phase⟩,⟨4,.phase⟩,⟨5,.phase⟩,⟨6,.phase⟩,⟨7,.phase⟩,⟨8,.phase⟩,⟨9,.phase⟩,⟨10,.phase⟩,⟨11,.phase⟩,⟨12,.phase⟩,⟨13,.phase⟩],none⟩,⟨none,.store 3 (.tmp 83) (.tmp 81),0,"l02_fn.go:300",#[⟨15,.data⟩,⟨13,.data⟩,⟨13,.chain⟩,⟨0,.phase⟩,⟨1,.phase⟩,⟨2,.phase⟩,⟨3,.phase⟩,⟨4,.phase⟩,⟨5,.phase⟩,⟨6,.phase⟩,⟨7,.phase⟩,⟨8,.phase⟩,⟨9,.phase⟩,⟨10,.phase⟩,⟨11,.phase⟩,⟨12,.phase⟩,⟨13,.phase⟩],none⟩]
def TL_drawA (C lo FB R0 g n cap b nn lb lcap:Nat)(vals:Int)(w0:World):List (Value→World→Prop) := [(fun v w=>v = .pointer (some ⟨FB,0,none⟩)),(fun v w=>v = .slice (some ⟨g,0,none⟩) n cap),(fun v w=>v = .int .i64 (b:Int)),(fun v w=>v = .pointer (some ⟨g,b*6,none⟩)),(fun v w=>v = .pointer (some ⟨g,b*6+1,none⟩)),(fun v w=>v = .slice (some ⟨lb,0,none⟩) nn lcap),(fun v w=>v = .pointer (some ⟨C,0,none⟩)),(fun v w=>v = .int .i64 (nn:Int)),(fun v w=>∃k:Nat,k<nn∧v = .int .i64 (k:Int)),(fun v w=>v = .pointer (some ⟨C,0,none⟩)),(fun v w=>v = .pointer (some ⟨FB,1,none⟩)),(fun v w=>v = .int .i64 vals),(fun v w=>∃z:Int,v = .int .i64 z),(fun v w=>∃z:Int,v = .int .i64 z),(fun v w=>∃k:Nat,k<nn∧v = .pointer (some ⟨lb,k*5,none⟩)),(fun v w=>∃k:Nat,k<nn∧v = .pointer (some ⟨lb,k*5+2,none⟩))]
def TT_drawA (C lo FB R0 g n cap b nn lb lcap:Nat)(vals:Int)(w0:World)(j:Nat)(v:Value)(w:World):Prop:=((TL_drawA C lo FB R0 g n cap b nn lb lcap vals w0).getD j (fun _ _=>True)) v w
theorem ops_drawA_acyc : ∀(i:Nat) (o:Oper),ops_drawA[i]? = some o→∀e∈o.after,e.on<i:=by
 have h:(List.range 17).all (fun i=>match ops_drawA[i]? with | some o=>o.after.all (fun e=>decide (e.on<i)) | none=>true)=true:=by kernel_rfl
 intro i o ho e he
 have hi:i<17:=(Array.getElem?_eq_some_iff.1 ho).1
 have:=List.all_eq_true.1 h i (List.mem_range.2 hi)
 rw[ho] at this
 simp only[Array.all_eq_true'] at this
 simpa using this e he
theorem ops_drawA_plain : ∀(i:Nat) (o:Oper),ops_drawA[i]? = some o→o.guard=none:=by
 have h:(List.range 17).all (fun i=>match ops_drawA[i]? with | some o=>o.guard.isNone | none=>true)=true:=by kernel_rfl
 intro i o ho
 have hi:i<17:=(Array.getElem?_eq_some_iff.1 ho).1
 have:=List.all_eq_true.1 h i (List.mem_range.2 hi)
 rw[ho] at this
 simpa using this
theorem ops_drawA_all : ∀li:Array Bool,Closed .any ops_drawA li→(∀o,ops_drawA[16]? = some o→∀e∈o.after,Region.binds .any e=true→li.getD e.on false=true)→∀j,j<16→li.getD j false=true:=by
 intro li hc hl
 have hlast:∀i,waitsFor .any ops_drawA 16 i=true→li.getD i false=true:=fun i hi=>by
  obtain⟨e,he,hb,h2⟩:=waitsFor_spec hi (Array.getElem?_eq_getElem (by decide:16<ops_drawA.size))
  rw[←h2]
  exact hl _ (Array.getElem?_eq_getElem (by decide:16<ops_drawA.size)) e he hb
 have hback:∀j i,j<16→li.getD j false=true→waitsFor .any ops_drawA j i=true→li.getD i false=true:=fun j i hj hjl hi=>by
  have hjs:j<ops_drawA.size:=by show j<17;omega
  obtain⟨e,he,hb,h2⟩:=waitsFor_spec hi (Array.getElem?_eq_getElem hjs)
  rw[←h2]
  exact hc j _ (Array.getElem?_eq_getElem hjs) hjl e he hb
 have hone:∀i,i<16→(waitsFor .any ops_drawA 16 i=true∨(∃k,k<16∧waitsFor .any ops_drawA 16 k=true∧waitsFor .any ops_drawA k i=true)∨∃k m,k<16∧m<16∧waitsFor .any ops_drawA 16 m=true∧waitsFor .any ops_drawA m k=true∧waitsFor .any ops_drawA k i=true):=by
  have hall:(List.range 16).all (fun i=>waitsFor .any ops_drawA 16 i || (List.range 16).any (fun k=>waitsFor .any ops_drawA 16 k && waitsFor .any ops_drawA k i) || (List.range 16).any (fun k=>(List.range 16).any (fun m=>waitsFor .any ops_drawA 16 m && (waitsFor .any ops_drawA m k && waitsFor .any ops_drawA k i))))=true:=by kernel_rfl
  intro i hi
  have:=List.all_eq_true.1 hall i (List.mem_range.2 hi)
  simp only[Bool.or_eq_true,List.any_eq_true,List.mem_range,Bool.and_eq_true] at this
  rcases this with (h | ⟨k,hk,h1,h2⟩) | ⟨k,hk,m,hm,h1,h2,h3⟩
  ·exact .inl h
  ·exact .inr (.inl ⟨k,hk,h1,h2⟩)
  ·exact .inr (.inr ⟨k,m,hk,hm,h1,h2,h3⟩)
 intro j hj
 rcases hone j hj with h | ⟨k,hk,h1,h2⟩ | ⟨k,m,hk,hm,h1,h2,h3⟩
 ·exact hlast j h
 ·exact hback k j hk (hlast k h1) h2
 ·exact hback k j hk (hback m k hm (hlast m h1) h2) h3
theorem TT_drawA_stab (C lo FB R0 g n cap b nn lb lcap:Nat)(vals:Int)(w0:World)(hC:C<lo):∀j v w w',TT_drawA C lo FB R0 g n cap b nn lb lcap vals w0 j v w→Fr C w w'→TT_drawA C lo FB R0 g n cap b nn lb lcap vals w0 j v w':=by
 intro j v w w' h hf
 have hk:=KeepLo.fr hf hC
 by_cases hj:j<16
 ·have hj':j=0∨j=1∨j=2∨j=3∨j=4∨j=5∨j=6∨j=7∨j=8∨j=9∨j=10∨j=11∨j=12∨j=13∨j=14∨j=15:=by omega
  rcases hj' with rfl | rfl | rfl | rfl | rfl | rfl | rfl | rfl | rfl | rfl | rfl | rfl | rfl | rfl | rfl | rfl
  ·exact h
  ·exact h
  ·exact h
  ·exact h
  ·exact h
  ·exact h
  ·exact h
  ·exact h
  ·obtain⟨k,h1,h2⟩:=h
   exact⟨k,h1,h2⟩
  ·exact h
  ·exact h
  ·exact h
  ·obtain⟨z,h1⟩:=h
   exact⟨z,h1⟩
  ·obtain⟨z,h1⟩:=h
   exact⟨z,h1⟩
  ·obtain⟨k,h1,h2⟩:=h
   exact⟨k,h1,h2⟩
  ·obtain⟨k,h1,h2⟩:=h
   exact⟨k,h1,h2⟩
 ·unfold TT_drawA at h ⊢
  have hlen:(TL_drawA C lo FB R0 g n cap b nn lb lcap vals w0).length=16:=rfl
  rw[List.getD_eq_getElem?_getD,List.getElem?_eq_none (by omega)]
  trivial
set_option maxRecDepth 100000 in
set_option maxHeartbeats 16000000 in
theorem drawA (C lo FB R0 g n cap b nn lb lcap:Nat)(vals:Int)(w0:World)(G:Nat)(B:List Bk)(x:Bk)(D:DSt w0 C lo G B)(gs:GenSt w0 C lo G (.slice (some ⟨g,0,none⟩) B.length cap) B vals)(hBn:B.length=n)(hb:b<n)(hx:B[b]? = some x)(fb:∃fv,w0.heap[FB]? = some (.cells #[.slice (some ⟨g,0,none⟩) n cap,.int .i64 vals] 26 fv))(hFC:FB≠C)(rb:∃c fv,w0.heap[R0]? = some (.cells c 26 fv))(hRC:R0≠C)(hlvx:x.lv = .slice (some ⟨lb,0,none⟩) nn lcap)(hlnx:x.ln=nn)(hnn:0<nn)(a0:Act)(hsz:a0.tmps.size=173)(h0:a0.eval (.tmp 0) = .pointer (some ⟨C,0,none⟩))(h3:a0.eval (.tmp 3) = .pointer (some ⟨FB,0,none⟩))(h4:a0.eval (.tmp 4) = .int .i64 (b:Int))(h5:a0.eval (.tmp 5) = .int .i64 (nn:Int))
  (Q:Exit→Act→World→Prop) (hQ:∀(f:Nat→Value) (W':World),(fun W=>ProgOk lo g n cap W∧W.heap[FB]? = w0.heap[FB]?∧W.heap[R0]? = w0.heap[R0]?∧Below C w0 W∧Cur W C) W'→Q .normal (putL a0 (List.range' 68 16) f) W') :
  wpAny Tryz.prog .any ops_drawA Q 17 (Array.replicate 17 false) a0 w0:=by
 obtain⟨fv,fb⟩:=fb
 obtain⟨rc,rv,rb⟩:=rb
 have hFw:FB<w0.heap.size:=(Array.getElem?_eq_some_iff.1 fb).1
 have hRw:R0<w0.heap.size:=(Array.getElem?_eq_some_iff.1 rb).1
 have hfb:∀w,Cur w C∧Fr C w0 w→w.cell? ⟨FB,0,none⟩=some (.slice (some ⟨g,0,none⟩) n cap)∧w.cell? ⟨FB,1,none⟩=some (.int .i64 vals):=fun w hS=>⟨(hS.2.cell (x:=⟨FB,0,none⟩) hFw hFC).trans (by simp[World.cell?,fb]),(hS.2.cell (x:=⟨FB,1,none⟩) hFw hFC).trans (by simp[World.cell?,fb])⟩
 obtain⟨g0,cap0,e0,hlog,hgw,hgG,hgc,hgf⟩:=gs.at hx
 cases e0
 have hgC:g≠C:=by have:=D.hC;omega
 have hty:∀k c z,w0.heap[k]? = some (.cells c 26 z)→k≠g:=fun k c z hk e=>by
  obtain⟨c2,hc2⟩:=ownsRow_typed gs.row g rfl
  rw[e,hc2] at hk
  cases hk
 have hDS:∀w,Cur w C∧Fr C w0 w→DSt w C lo G B∧GenSt w C lo G (.slice (some ⟨g,0,none⟩) B.length cap) B vals:=fun w hS=>⟨D.draw hS.2 hS.1,gs.lo D.hG (KeepLo.fr hS.2 D.hC)⟩
 have hqw:∀w,Cur w C∧Fr C w0 w→∀j,j<6→∃u,w.cell? ⟨g,b*6+j,none⟩=some u∧w.frozen? ⟨g,b*6+j,none⟩=false:=fun w hS j hj=>by
  have h6:x.cells[j]? = some (x.cells[j]'(by simpa [Bk.cells] using hj)):=List.getElem?_eq_getElem _
  exact⟨_,(hS.2.cell (x:=⟨g,b*6+j,none⟩) hgw hgC).trans (hgc j _ hj h6),(hS.2.frozen (x:=⟨g,b*6+j,none⟩) hgw hgC).trans (hgf _)⟩
 obtain⟨ixs,hix,hii,hi24⟩:=gs.ins b x hx
 rw[hlvx,hlnx] at hix
 have hlbw:lb<w0.heap.size:=ownsRow_lt hix lb rfl
 have hlbl:lo≤lb:=(World.ownsRow.lt hix lb rfl).1
 have hlbC:lb≠C:=by have:=D.hC;omega
 have hlv:∀w,Cur w C∧Fr C w0 w→w.cell? ⟨g,b*6+1,none⟩=some (.slice (some ⟨lb,0,none⟩) nn lcap):=fun w hS=>(hS.2.cell (x:=⟨g,b*6+1,none⟩) hgw hgC).trans (hgc 1 _ (by omega) (by rw[←hlvx];rfl))
 refine wpAny_inv (N:=16) (s0:=68) (a0:=a0) (S:=fun w=>Cur w C∧Fr C w0 w) (R:=Fr C) (T:=TT_drawA C lo FB R0 g n cap b nn lb lcap vals w0) (Post:=fun W=>ProgOk lo g n cap W∧W.heap[FB]? = w0.heap[FB]?∧W.heap[R0]? = w0.heap[R0]?∧Below C w0 W∧Cur W C)
  rfl (by omega) ops_drawA_acyc ops_drawA_plain ops_drawA_all (TT_drawA_stab C lo FB R0 g n cap b nn lb lcap vals w0 D.hC) ?hop ?hlast ?hQ 17 _ a0 w0 (by simp) ⟨by simp,fun j o ho hj=>?cl,rfl,rfl,fun _ _=>rfl,.inl ⟨by simp,⟨D.cur,Fr.refl _ _⟩,fun j hj hjl=>?nt⟩⟩
 case cl=>
  have:(Array.replicate 17 false).getD j false=false:=by simp[Array.getD]
  rw[this] at hj
  cases hj
 case nt=>
  have:(Array.replicate 17 false).getD j false=false:=by simp[Array.getD]
  rw[this] at hjl
  cases hjl
 case hQ=>
  intro a w e1 e2 e3 hP
  rw[act_fill e1 e2 e3]
  exact hQ _ w hP
 case hlast=>
  intro o ho a w es eo hS hT K hK
  obtain⟨_,rfl⟩:=Array.getElem?_eq_some_iff.1 ho
  have ev:∀t:Nat,t<68→a.eval (.tmp t)=a0.eval (.tmp t):=fun t ht=>by
   show a.tmps.getD t undef=a0.tmps.getD t undef
   rw[Array.getD_eq_getD_getElem?,Array.getD_eq_getD_getElem?,eo t (.inl ht)]
  obtain⟨z,d0⟩:=hT 13 (by omega)
  obtain⟨k,hk,d1⟩:=hT 15 (by omega)
  obtain⟨dw,gw⟩:=hDS w hS
  obtain⟨⟨u,q⟩,r,hpr,hft⟩:=gw.setIns hBn hx hlvx hlnx hk (f:=2) (by omega) z
  refine wp_skip_of (run_storeOp rfl d1 d0 (run_store_int q r z)) (hK _ ⟨hpr,?_,?_,?_,hS.1.below D.hC ((Below.refl lo w).setCell (p:=⟨lb,k*5+2,none⟩) hlbl _)⟩)
  ·exact(Below.heap_setCell _ _ _ FB (fun e=>hft FB _ _ ((hS.2.block FB hFw hFC).trans fb) e)).trans (hS.2.block FB hFw hFC)
  ·exact(Below.heap_setCell _ _ _ R0 (fun e=>hft R0 _ _ ((hS.2.block R0 hRw hRC).trans rb) e)).trans (hS.2.block R0 hRw hRC)
  ·exact(hS.2.belowAt (Nat.le_of_lt D.cur.lt)).trans ((Below.refl C w).setCell (p:=⟨lb,k*5+2,none⟩) (by show C≤lb;have:=D.hC;omega) _)
 case hop=>
  intro j hj o ho a w es eo hS hT K hK
  have ev:∀t:Nat,t<68→a.eval (.tmp t)=a0.eval (.tmp t):=fun t ht=>by
   show a.tmps.getD t undef=a0.tmps.getD t undef
   rw[Array.getD_eq_getD_getElem?,Array.getD_eq_getD_getElem?,eo t (.inl ht)]
  have hj':j=0∨j=1∨j=2∨j=3∨j=4∨j=5∨j=6∨j=7∨j=8∨j=9∨j=10∨j=11∨j=12∨j=13∨j=14∨j=15:=by omega
  rcases hj' with rfl | rfl | rfl | rfl | rfl | rfl | rfl | rfl | rfl | rfl | rfl | rfl | rfl | rfl | rfl | rfl
  ·obtain⟨_,rfl⟩:=Array.getElem?_eq_some_iff.1 ho
   exact wp_field rfl ((ev 3 (by omega)).trans h3) (run_field_fn0 FB 0 w) (hK _ _ (Fr.refl C w) hS rfl)
  ·obtain⟨_,rfl⟩:=Array.getElem?_eq_some_iff.1 ho
   have d0:=hT 0 (by omega) (by kernel_rfl)
   exact wp_load rfl d0 (run_load_blocks0 (hfb w hS).1) (hK _ _ (Fr.refl C w) hS rfl)
  ·obtain⟨_,rfl⟩:=Array.getElem?_eq_some_iff.1 ho
   exact wp_move rfl ((ev 4 (by omega)).trans h4) (hK _ _ (Fr.refl C w) hS rfl)
  ·obtain⟨_,rfl⟩:=Array.getElem?_eq_some_iff.1 ho
   have d0:=hT 1 (by omega) (by kernel_rfl)
   have d1:=hT 2 (by omega) (by kernel_rfl)
   exact wp_index rfl d0 d1 (run_index_block hb w) (hK _ _ (Fr.refl C w) hS rfl)
  ·obtain⟨_,rfl⟩:=Array.getElem?_eq_some_iff.1 ho
   have d0:=hT 3 (by omega) (by kernel_rfl)
   exact wp_field rfl d0 (run_field_block1 g (b*6) w) (hK _ _ (Fr.refl C w) hS rfl)
  ·obtain⟨_,rfl⟩:=Array.getElem?_eq_some_iff.1 ho
   have d0:=hT 4 (by omega) (by kernel_rfl)
   exact wp_load rfl d0 (run_load_list (hlv w hS)) (hK _ _ (Fr.refl C w) hS rfl)
  ·obtain⟨_,rfl⟩:=Array.getElem?_eq_some_iff.1 ho
   exact wp_move rfl ((ev 0 (by omega)).trans h0) (hK _ _ (Fr.refl C w) hS rfl)
  ·obtain⟨_,rfl⟩:=Array.getElem?_eq_some_iff.1 ho
   exact wp_move rfl ((ev 5 (by omega)).trans h5) (hK _ _ (Fr.refl C w) hS rfl)
  ·obtain⟨_,rfl⟩:=Array.getElem?_eq_some_iff.1 ho
   have d0:=hT 6 (by omega) (by kernel_rfl)
   have d1:=hT 7 (by omega) (by kernel_rfl)
   refine wp_call_of (f:=83) (args := #[.pointer (some ⟨C,0,none⟩),.int .i64 (nn:Int)]) (runCall2 rfl d0 d1 (enters_of Tryz.func83 (by kernel_rfl) rfl) _) (below_any C _ w hS.1) ?_
   rintro e w1 ⟨z,rfl,hz0,hz1,_,hf,hc⟩
   have hz2:=hz1 (by omega)
   exact⟨_,rfl,hK _ _ hf ⟨hc,hS.2.trans hf⟩ ⟨z.toNat,by omega,by rw[Int.toNat_of_nonneg hz0]⟩⟩
  ·obtain⟨_,rfl⟩:=Array.getElem?_eq_some_iff.1 ho
   exact wp_move rfl ((ev 0 (by omega)).trans h0) (hK _ _ (Fr.refl C w) hS rfl)
  ·obtain⟨_,rfl⟩:=Array.getElem?_eq_some_iff.1 ho
   exact wp_field rfl ((ev 3 (by omega)).trans h3) (run_field_fn1 FB w) (hK _ _ (Fr.refl C w) hS rfl)
  ·obtain⟨_,rfl⟩:=Array.getElem?_eq_some_iff.1 ho
   have d0:=hT 10 (by omega) (by kernel_rfl)
   exact wp_load rfl d0 (run_load_int1 (hfb w hS).2) (hK _ _ (Fr.refl C w) hS rfl)
  ·obtain⟨_,rfl⟩:=Array.getElem?_eq_some_iff.1 ho
   have d0:=hT 11 (by omega) (by kernel_rfl)
   obtain⟨z,hz⟩:=run_addOp (o:=ops_drawA[12]) rfl d0 w
   exact wp_value_of hz (hK _ _ (Fr.refl C w) hS ⟨z,rfl⟩)
  ·obtain⟨_,rfl⟩:=Array.getElem?_eq_some_iff.1 ho
   have d0:=hT 9 (by omega) (by kernel_rfl)
   obtain⟨z0,d1⟩:=hT 12 (by omega) (by kernel_rfl)
   refine wp_call_of (f:=83) (args := #[.pointer (some ⟨C,0,none⟩),.int .i64 z0]) (runCall2 rfl d0 d1 (enters_of Tryz.func83 (by kernel_rfl) rfl) _) (below_any C _ w hS.1) ?_
   rintro e w1 ⟨z,rfl,_,_,_,hf,hc⟩
   exact⟨_,rfl,hK _ _ hf ⟨hc,hS.2.trans hf⟩ ⟨z,rfl⟩⟩
  ·obtain⟨_,rfl⟩:=Array.getElem?_eq_some_iff.1 ho
   have d0:=hT 5 (by omega) (by kernel_rfl)
   obtain⟨k,hk,d1⟩:=hT 8 (by omega) (by kernel_rfl)
   exact wp_index rfl d0 d1 (run_index_list hk w) (hK _ _ (Fr.refl C w) hS ⟨k,hk,rfl⟩)
  ·obtain⟨_,rfl⟩:=Array.getElem?_eq_some_iff.1 ho
   obtain⟨k,hk,d0⟩:=hT 14 (by omega) (by kernel_rfl)
   exact wp_field rfl d0 (run_field_ins2 lb (k*5) w) (hK _ _ (Fr.refl C w) hS ⟨k,hk,rfl⟩)
def ops_drawD : Array Oper := #[⟨some 88,.fieldAddr 26 (.tmp 3) 0,0,"l02_fn.go:304",#[],none⟩,⟨some 89,.load 24 (.tmp 88),24,"l02_fn.go:304",#[⟨0,.data⟩],none⟩,⟨some 90,.move (.tmp 4),3,"l02_fn.go:304",#[],none⟩,⟨some 91,.indexAddr 24 (.tmp 89) (.tmp 90),0,"l02_fn.go:304",#[⟨1,.data⟩,⟨2,.data⟩],none⟩,⟨some 92,.fieldAddr 44 (.tmp 91) 1,0,"l02_fn.go:304",#[⟨3,.data⟩],none⟩,⟨some 93,.load 40 (.tmp 92),40,"l02_fn.go:304",#[⟨4,.data⟩],none⟩,⟨some 94,.move (.tmp 0),66,"l02_fn.go:304",#[],none⟩,⟨some 95,.move (.tmp 5),3,"l02_fn.go:304",#[],none⟩,⟨some 96,.call ⟨.value (.func 83),#[.tmp 94,.tmp 95],#[66,3]⟩,3,"l02_fn.go:304",#[⟨6,.data⟩,⟨7,.data⟩],none⟩,⟨some 97,.move (.tmp 0),66,"l02_fn.go:304",#[],none⟩,⟨some 98,.fieldAddr 26 (.tmp 3) 1,0,"l02_fn.go:304",#[],none⟩,⟨some 99,.load 3 (.tmp 98),3,"l02_fn.go:304",#[⟨10,.data⟩],none⟩,⟨some 100,.binOp .add 3 (.tmp 99) (.const (.int .i64 1)) 3,3,"l02_fn.go:304",#[⟨11,.data⟩],none⟩,⟨some 101,.call ⟨.value (.func 83),#[.tmp 97,.tmp 100],#[66,3]⟩,3,"l02_fn.go:304",#[⟨9,.data⟩,⟨12,.data⟩,⟨8,.chain⟩],none⟩,⟨some 102,.binOp .sub 3 (.tmp 101) (.const (.int .i64 1)) 3,3,"l02_fn.go:304",#[⟨13,.data⟩],none⟩,⟨some 103,.indexAddr 40 (.tmp 93) (.tmp 96),0,"l02_fn.go:304",#[⟨5,.data⟩,⟨8,.data⟩,⟨0,.phase⟩,⟨1,.phase⟩,⟨2,.phase⟩,⟨3,.phase⟩,⟨4,.phase⟩,⟨5,.phase⟩,⟨6,.phase⟩,⟨7,.phase⟩,⟨8,.phase⟩,⟨9,.phase⟩,⟨10,.phase⟩,⟨11,.phase⟩,⟨12,.phase⟩,⟨13,.phase⟩,⟨14,.phase⟩],none⟩,⟨some 104,.fieldAddr 46 (.tmp 103) 1,0,"l02_fn.go:304",#[⟨15,.data⟩,⟨0,.phase⟩,⟨1,.phase⟩,⟨2,.phase⟩,⟨3,.phase⟩,⟨4,.phase⟩,⟨5,.phase⟩,⟨6,.phase⟩,⟨7,.phase⟩,⟨8,.phase⟩,⟨9,.phase⟩,⟨10,.phase⟩,⟨11,.phase⟩,⟨12,.phase⟩,⟨13,.phase⟩,⟨14,.phase⟩],none⟩,⟨none,.store 3 (.tmp 104) (.tmp 102),0,"l02_fn.go:304",#[⟨16,.data⟩,⟨14,.data⟩,⟨13,.chain⟩,⟨0,.phase⟩,⟨1,.phase⟩,⟨2,.phase⟩,⟨3,.phase⟩,⟨4,.phase⟩,⟨5,.phase⟩,⟨6,.phase⟩,⟨7,.phase⟩,⟨8,.phase⟩,⟨9,.phase⟩,⟨10,.phase⟩,⟨11,.phase⟩,⟨12,.phase⟩,⟨13,.phase⟩,⟨14,.phase⟩],none⟩]
def TL_drawD (C lo FB R0 g n cap b nn lb lcap:Nat)(vals:Int)(w0:World):List (Value→World→Prop) := [(fun v w=>v = .pointer (some ⟨FB,0,none⟩)),(fun v w=>v = .slice (some ⟨g,0,none⟩) n cap),(fun v w=>v = .int .i64 (b:Int)),(fun v w=>v = .pointer (some ⟨g,b*6,none⟩)),(fun v w=>v = .pointer (some ⟨g,b*6+1,none⟩)),(fun v w=>v = .slice (some ⟨lb,0,none⟩) nn lcap),(fun v w=>v = .pointer (some ⟨C,0,none⟩)),(fun v w=>v = .int .i64 (nn:Int)),(fun v w=>∃k:Nat,k<nn∧v = .int .i64 (k:Int)),(fun v w=>v = .pointer (some ⟨C,0,none⟩)),(fun v w=>v = .pointer (some ⟨FB,1,none⟩)),(fun v w=>v = .int .i64 vals),(fun v w=>∃z:Int,v = .int .i64 z),(fun v w=>∃z:Int,v = .int .i64 z),(fun v w=>∃z:Int,v = .int .i64 z),(fun v w=>∃k:Nat,k<nn∧v = .pointer (some ⟨lb,k*5,none⟩)),(fun v w=>∃k:Nat,k<nn∧v = .pointer (some ⟨lb,k*5+1,none⟩))]
def TT_drawD (C lo FB R0 g n cap b nn lb lcap:Nat)(vals:Int)(w0:World)(j:Nat)(v:Value)(w:World):Prop:=((TL_drawD C lo FB R0 g n cap b nn lb lcap vals w0).getD j (fun _ _=>True)) v w
theorem ops_drawD_acyc : ∀(i:Nat) (o:Oper),ops_drawD[i]? = some o→∀e∈o.after,e.on<i:=by
 have h:(List.range 18).all (fun i=>match ops_drawD[i]? with | some o=>o.after.all (fun e=>decide (e.on<i)) | none=>true)=true:=by kernel_rfl
 intro i o ho e he
 have hi:i<18:=(Array.getElem?_eq_some_iff.1 ho).1
 have:=List.all_eq_true.1 h i (List.mem_range.2 hi)
 rw[ho] at this
 simp only[Array.all_eq_true'] at this
 simpa using this e he
theorem ops_drawD_plain : ∀(i:Nat) (o:Oper),ops_drawD[i]? = some o→o.guard=none:=by
 have h:(List.range 18).all (fun i=>match ops_drawD[i]? with | some o=>o.guard.isNone | none=>true)=true:=by kernel_rfl
 intro i o ho
 have hi:i<18:=(Array.getElem?_eq_some_iff.1 ho).1
 have:=List.all_eq_true.1 h i (List.mem_range.2 hi)
 rw[ho] at this
 simpa using this
theorem ops_drawD_all : ∀li:Array Bool,Closed .any ops_drawD li→(∀o,ops_drawD[17]? = some o→∀e∈o.after,Region.binds .any e=true→li.getD e.on false=true)→∀j,j<17→li.getD j false=true:=by
 intro li hc hl
 have hlast:∀i,waitsFor .any ops_drawD 17 i=true→li.getD i false=true:=fun i hi=>by
  obtain⟨e,he,hb,h2⟩:=waitsFor_spec hi (Array.getElem?_eq_getElem (by decide:17<ops_drawD.size))
  rw[←h2]
  exact hl _ (Array.getElem?_eq_getElem (by decide:17<ops_drawD.size)) e he hb
 have hback:∀j i,j<17→li.getD j false=true→waitsFor .any ops_drawD j i=true→li.getD i false=true:=fun j i hj hjl hi=>by
  have hjs:j<ops_drawD.size:=by show j<18;omega
  obtain⟨e,he,hb,h2⟩:=waitsFor_spec hi (Array.getElem?_eq_getElem hjs)
  rw[←h2]
  exact hc j _ (Array.getElem?_eq_getElem hjs) hjl e he hb
 have hone:∀i,i<17→(waitsFor .any ops_drawD 17 i=true∨(∃k,k<17∧waitsFor .any ops_drawD 17 k=true∧waitsFor .any ops_drawD k i=true)∨∃k m,k<17∧m<17∧waitsFor .any ops_drawD 17 m=true∧waitsFor .any ops_drawD m k=true∧waitsFor .any ops_drawD k i=true):=by
  have hall:(List.range 17).all (fun i=>waitsFor .any ops_drawD 17 i || (List.range 17).any (fun k=>waitsFor .any ops_drawD 17 k && waitsFor .any ops_drawD k i) || (List.range 17).any (fun k=>(List.range 17).any (fun m=>waitsFor .any ops_drawD 17 m && (waitsFor .any ops_drawD m k && waitsFor .any ops_drawD k i))))=true:=by kernel_rfl
  intro i hi
  have:=List.all_eq_true.1 hall i (List.mem_range.2 hi)
  simp only[Bool.or_eq_true,List.any_eq_true,List.mem_range,Bool.and_eq_true] at this
  rcases this with (h | ⟨k,hk,h1,h2⟩) | ⟨k,hk,m,hm,h1,h2,h3⟩
  ·exact .inl h
  ·exact .inr (.inl ⟨k,hk,h1,h2⟩)
  ·exact .inr (.inr ⟨k,m,hk,hm,h1,h2,h3⟩)
 intro j hj
 rcases hone j hj with h | ⟨k,hk,h1,h2⟩ | ⟨k,m,hk,hm,h1,h2,h3⟩
 ·exact hlast j h
 ·exact hback k j hk (hlast k h1) h2
 ·exact hback k j hk (hback m k hm (hlast m h1) h2) h3
theorem TT_drawD_stab (C lo FB R0 g n cap b nn lb lcap:Nat)(vals:Int)(w0:World)(hC:C<lo):∀j v w w',TT_drawD C lo FB R0 g n cap b nn lb lcap vals w0 j v w→Fr C w w'→TT_drawD C lo FB R0 g n cap b nn lb lcap vals w0 j v w':=by
 intro j v w w' h hf
 have hk:=KeepLo.fr hf hC
 by_cases hj:j<17
 ·have hj':j=0∨j=1∨j=2∨j=3∨j=4∨j=5∨j=6∨j=7∨j=8∨j=9∨j=10∨j=11∨j=12∨j=13∨j=14∨j=15∨j=16:=by omega
  rcases hj' with rfl | rfl | rfl | rfl | rfl | rfl | rfl | rfl | rfl | rfl | rfl | rfl | rfl | rfl | rfl | rfl | rfl
  ·exact h
  ·exact h
  ·exact h
  ·exact h
  ·exact h
  ·exact h
  ·exact h
  ·exact h
  ·obtain⟨k,h1,h2⟩:=h
   exact⟨k,h1,h2⟩
  ·exact h
  ·exact h
  ·exact h
  ·obtain⟨z,h1⟩:=h
   exact⟨z,h1⟩
  ·obtain⟨z,h1⟩:=h
   exact⟨z,h1⟩
  ·obtain⟨z,h1⟩:=h
   exact⟨z,h1⟩
  ·obtain⟨k,h1,h2⟩:=h
   exact⟨k,h1,h2⟩
  ·obtain⟨k,h1,h2⟩:=h
   exact⟨k,h1,h2⟩
 ·unfold TT_drawD at h ⊢
  have hlen:(TL_drawD C lo FB R0 g n cap b nn lb lcap vals w0).length=17:=rfl
  rw[List.getD_eq_getElem?_getD,List.getElem?_eq_none (by omega)]
  trivial
set_option maxRecDepth 100000 in
set_option maxHeartbeats 16000000 in
theorem drawD (C lo FB R0 g n cap b nn lb lcap:Nat)(vals:Int)(w0:World)(G:Nat)(B:List Bk)(x:Bk)(D:DSt w0 C lo G B)(gs:GenSt w0 C lo G (.slice (some ⟨g,0,none⟩) B.length cap) B vals)(hBn:B.length=n)(hb:b<n)(hx:B[b]? = some x)(fb:∃fv,w0.heap[FB]? = some (.cells #[.slice (some ⟨g,0,none⟩) n cap,.int .i64 vals] 26 fv))(hFC:FB≠C)(rb:∃c fv,w0.heap[R0]? = some (.cells c 26 fv))(hRC:R0≠C)(hlvx:x.lv = .slice (some ⟨lb,0,none⟩) nn lcap)(hlnx:x.ln=nn)(hnn:0<nn)(a0:Act)(hsz:a0.tmps.size=173)(h0:a0.eval (.tmp 0) = .pointer (some ⟨C,0,none⟩))(h3:a0.eval (.tmp 3) = .pointer (some ⟨FB,0,none⟩))(h4:a0.eval (.tmp 4) = .int .i64 (b:Int))(h5:a0.eval (.tmp 5) = .int .i64 (nn:Int))
  (Q:Exit→Act→World→Prop) (hQ:∀(f:Nat→Value) (W':World),(fun W=>ProgOk lo g n cap W∧W.heap[FB]? = w0.heap[FB]?∧W.heap[R0]? = w0.heap[R0]?∧Below C w0 W∧Cur W C) W'→Q .normal (putL a0 (List.range' 88 17) f) W') :
  wpAny Tryz.prog .any ops_drawD Q 18 (Array.replicate 18 false) a0 w0:=by
 obtain⟨fv,fb⟩:=fb
 obtain⟨rc,rv,rb⟩:=rb
 have hFw:FB<w0.heap.size:=(Array.getElem?_eq_some_iff.1 fb).1
 have hRw:R0<w0.heap.size:=(Array.getElem?_eq_some_iff.1 rb).1
 have hfb:∀w,Cur w C∧Fr C w0 w→w.cell? ⟨FB,0,none⟩=some (.slice (some ⟨g,0,none⟩) n cap)∧w.cell? ⟨FB,1,none⟩=some (.int .i64 vals):=fun w hS=>⟨(hS.2.cell (x:=⟨FB,0,none⟩) hFw hFC).trans (by simp[World.cell?,fb]),(hS.2.cell (x:=⟨FB,1,none⟩) hFw hFC).trans (by simp[World.cell?,fb])⟩
 obtain⟨g0,cap0,e0,hlog,hgw,hgG,hgc,hgf⟩:=gs.at hx
 cases e0
 have hgC:g≠C:=by have:=D.hC;omega
 have hty:∀k c z,w0.heap[k]? = some (.cells c 26 z)→k≠g:=fun k c z hk e=>by
  obtain⟨c2,hc2⟩:=ownsRow_typed gs.row g rfl
  rw[e,hc2] at hk
  cases hk
 have hDS:∀w,Cur w C∧Fr C w0 w→DSt w C lo G B∧GenSt w C lo G (.slice (some ⟨g,0,none⟩) B.length cap) B vals:=fun w hS=>⟨D.draw hS.2 hS.1,gs.lo D.hG (KeepLo.fr hS.2 D.hC)⟩
 have hqw:∀w,Cur w C∧Fr C w0 w→∀j,j<6→∃u,w.cell? ⟨g,b*6+j,none⟩=some u∧w.frozen? ⟨g,b*6+j,none⟩=false:=fun w hS j hj=>by
  have h6:x.cells[j]? = some (x.cells[j]'(by simpa [Bk.cells] using hj)):=List.getElem?_eq_getElem _
  exact⟨_,(hS.2.cell (x:=⟨g,b*6+j,none⟩) hgw hgC).trans (hgc j _ hj h6),(hS.2.frozen (x:=⟨g,b*6+j,none⟩) hgw hgC).trans (hgf _)⟩
 obtain⟨ixs,hix,hii,hi24⟩:=gs.ins b x hx
 rw[hlvx,hlnx] at hix
 have hlbw:lb<w0.heap.size:=ownsRow_lt hix lb rfl
 have hlbl:lo≤lb:=(World.ownsRow.lt hix lb rfl).1
 have hlbC:lb≠C:=by have:=D.hC;omega
 have hlv:∀w,Cur w C∧Fr C w0 w→w.cell? ⟨g,b*6+1,none⟩=some (.slice (some ⟨lb,0,none⟩) nn lcap):=fun w hS=>(hS.2.cell (x:=⟨g,b*6+1,none⟩) hgw hgC).trans (hgc 1 _ (by omega) (by rw[←hlvx];rfl))
 refine wpAny_inv (N:=17) (s0:=88) (a0:=a0) (S:=fun w=>Cur w C∧Fr C w0 w) (R:=Fr C) (T:=TT_drawD C lo FB R0 g n cap b nn lb lcap vals w0) (Post:=fun W=>ProgOk lo g n cap W∧W.heap[FB]? = w0.heap[FB]?∧W.heap[R0]? = w0.heap[R0]?∧Below C w0 W∧Cur W C)
  rfl (by omega) ops_drawD_acyc ops_drawD_plain ops_drawD_all (TT_drawD_stab C lo FB R0 g n cap b nn lb lcap vals w0 D.hC) ?hop ?hlast ?hQ 18 _ a0 w0 (by simp) ⟨by simp,fun j o ho hj=>?cl,rfl,rfl,fun _ _=>rfl,.inl ⟨by simp,⟨D.cur,Fr.refl _ _⟩,fun j hj hjl=>?nt⟩⟩
 case cl=>
  have:(Array.replicate 18 false).getD j false=false:=by simp[Array.getD]
  rw[this] at hj
  cases hj
 case nt=>
  have:(Array.replicate 18 false).getD j false=false:=by simp[Array.getD]
  rw[this] at hjl
  cases hjl
 case hQ=>
  intro a w e1 e2 e3 hP
  rw[act_fill e1 e2 e3]
  exact hQ _ w hP
 case hlast=>
  intro o ho a w es eo hS hT K hK
  obtain⟨_,rfl⟩:=Array.getElem?_eq_some_iff.1 ho
  have ev:∀t:Nat,t<88→a.eval (.tmp t)=a0.eval (.tmp t):=fun t ht=>by
   show a.tmps.getD t undef=a0.tmps.getD t undef
   rw[Array.getD_eq_getD_getElem?,Array.getD_eq_getD_getElem?,eo t (.inl ht)]
  obtain⟨z,d0⟩:=hT 14 (by omega)
  obtain⟨k,hk,d1⟩:=hT 16 (by omega)
  obtain⟨dw,gw⟩:=hDS w hS
  obtain⟨⟨u,q⟩,r,hpr,hft⟩:=gw.setIns hBn hx hlvx hlnx hk (f:=1) (by omega) z
  refine wp_skip_of (run_storeOp rfl d1 d0 (run_store_int q r z)) (hK _ ⟨hpr,?_,?_,?_,hS.1.below D.hC ((Below.refl lo w).setCell (p:=⟨lb,k*5+1,none⟩) hlbl _)⟩)
  ·exact(Below.heap_setCell _ _ _ FB (fun e=>hft FB _ _ ((hS.2.block FB hFw hFC).trans fb) e)).trans (hS.2.block FB hFw hFC)
  ·exact(Below.heap_setCell _ _ _ R0 (fun e=>hft R0 _ _ ((hS.2.block R0 hRw hRC).trans rb) e)).trans (hS.2.block R0 hRw hRC)
  ·exact(hS.2.belowAt (Nat.le_of_lt D.cur.lt)).trans ((Below.refl C w).setCell (p:=⟨lb,k*5+1,none⟩) (by show C≤lb;have:=D.hC;omega) _)
 case hop=>
  intro j hj o ho a w es eo hS hT K hK
  have ev:∀t:Nat,t<88→a.eval (.tmp t)=a0.eval (.tmp t):=fun t ht=>by
   show a.tmps.getD t undef=a0.tmps.getD t undef
   rw[Array.getD_eq_getD_getElem?,Array.getD_eq_getD_getElem?,eo t (.inl ht)]
  have hj':j=0∨j=1∨j=2∨j=3∨j=4∨j=5∨j=6∨j=7∨j=8∨j=9∨j=10∨j=11∨j=12∨j=13∨j=14∨j=15∨j=16:=by omega
  rcases hj' with rfl | rfl | rfl | rfl | rfl | rfl | rfl | rfl | rfl | rfl | rfl | rfl | rfl | rfl | rfl | rfl | rfl
  ·obtain⟨_,rfl⟩:=Array.getElem?_eq_some_iff.1 ho
   exact wp_field rfl ((ev 3 (by omega)).trans h3) (run_field_fn0 FB 0 w) (hK _ _ (Fr.refl C w) hS rfl)
  ·obtain⟨_,rfl⟩:=Array.getElem?_eq_some_iff.1 ho
   have d0:=hT 0 (by omega) (by kernel_rfl)
   exact wp_load rfl d0 (run_load_blocks0 (hfb w hS).1) (hK _ _ (Fr.refl C w) hS rfl)
  ·obtain⟨_,rfl⟩:=Array.getElem?_eq_some_iff.1 ho
   exact wp_move rfl ((ev 4 (by omega)).trans h4) (hK _ _ (Fr.refl C w) hS rfl)
  ·obtain⟨_,rfl⟩:=Array.getElem?_eq_some_iff.1 ho
   have d0:=hT 1 (by omega) (by kernel_rfl)
   have d1:=hT 2 (by omega) (by kernel_rfl)
   exact wp_index rfl d0 d1 (run_index_block hb w) (hK _ _ (Fr.refl C w) hS rfl)
  ·obtain⟨_,rfl⟩:=Array.getElem?_eq_some_iff.1 ho
   have d0:=hT 3 (by omega) (by kernel_rfl)
   exact wp_field rfl d0 (run_field_block1 g (b*6) w) (hK _ _ (Fr.refl C w) hS rfl)
  ·obtain⟨_,rfl⟩:=Array.getElem?_eq_some_iff.1 ho
   have d0:=hT 4 (by omega) (by kernel_rfl)
   exact wp_load rfl d0 (run_load_list (hlv w hS)) (hK _ _ (Fr.refl C w) hS rfl)
  ·obtain⟨_,rfl⟩:=Array.getElem?_eq_some_iff.1 ho
   exact wp_move rfl ((ev 0 (by omega)).trans h0) (hK _ _ (Fr.refl C w) hS rfl)
  ·obtain⟨_,rfl⟩:=Array.getElem?_eq_some_iff.1 ho
   exact wp_move rfl ((ev 5 (by omega)).trans h5) (hK _ _ (Fr.refl C w) hS rfl)
  ·obtain⟨_,rfl⟩:=Array.getElem?_eq_some_iff.1 ho
   have d0:=hT 6 (by omega) (by kernel_rfl)
   have d1:=hT 7 (by omega) (by kernel_rfl)
   refine wp_call_of (f:=83) (args := #[.pointer (some ⟨C,0,none⟩),.int .i64 (nn:Int)]) (runCall2 rfl d0 d1 (enters_of Tryz.func83 (by kernel_rfl) rfl) _) (below_any C _ w hS.1) ?_
   rintro e w1 ⟨z,rfl,hz0,hz1,_,hf,hc⟩
   have hz2:=hz1 (by omega)
   exact⟨_,rfl,hK _ _ hf ⟨hc,hS.2.trans hf⟩ ⟨z.toNat,by omega,by rw[Int.toNat_of_nonneg hz0]⟩⟩
  ·obtain⟨_,rfl⟩:=Array.getElem?_eq_some_iff.1 ho
   exact wp_move rfl ((ev 0 (by omega)).trans h0) (hK _ _ (Fr.refl C w) hS rfl)
  ·obtain⟨_,rfl⟩:=Array.getElem?_eq_some_iff.1 ho
   exact wp_field rfl ((ev 3 (by omega)).trans h3) (run_field_fn1 FB w) (hK _ _ (Fr.refl C w) hS rfl)
  ·obtain⟨_,rfl⟩:=Array.getElem?_eq_some_iff.1 ho
   have d0:=hT 10 (by omega) (by kernel_rfl)
   exact wp_load rfl d0 (run_load_int1 (hfb w hS).2) (hK _ _ (Fr.refl C w) hS rfl)
  ·obtain⟨_,rfl⟩:=Array.getElem?_eq_some_iff.1 ho
   have d0:=hT 11 (by omega) (by kernel_rfl)
   obtain⟨z,hz⟩:=run_addOp (o:=ops_drawD[12]) rfl d0 w
   exact wp_value_of hz (hK _ _ (Fr.refl C w) hS ⟨z,rfl⟩)
  ·obtain⟨_,rfl⟩:=Array.getElem?_eq_some_iff.1 ho
   have d0:=hT 9 (by omega) (by kernel_rfl)
   obtain⟨z0,d1⟩:=hT 12 (by omega) (by kernel_rfl)
   refine wp_call_of (f:=83) (args := #[.pointer (some ⟨C,0,none⟩),.int .i64 z0]) (runCall2 rfl d0 d1 (enters_of Tryz.func83 (by kernel_rfl) rfl) _) (below_any C _ w hS.1) ?_
   rintro e w1 ⟨z,rfl,_,_,_,hf,hc⟩
   exact⟨_,rfl,hK _ _ hf ⟨hc,hS.2.trans hf⟩ ⟨z,rfl⟩⟩
  ·obtain⟨_,rfl⟩:=Array.getElem?_eq_some_iff.1 ho
   obtain⟨z0,d0⟩:=hT 13 (by omega) (by kernel_rfl)
   obtain⟨z,hz⟩:=run_subOp (o:=ops_drawD[14]) rfl d0 w
   exact wp_value_of hz (hK _ _ (Fr.refl C w) hS ⟨z,rfl⟩)
  ·obtain⟨_,rfl⟩:=Array.getElem?_eq_some_iff.1 ho
   have d0:=hT 5 (by omega) (by kernel_rfl)
   obtain⟨k,hk,d1⟩:=hT 8 (by omega) (by kernel_rfl)
   exact wp_index rfl d0 d1 (run_index_list hk w) (hK _ _ (Fr.refl C w) hS ⟨k,hk,rfl⟩)
  ·obtain⟨_,rfl⟩:=Array.getElem?_eq_some_iff.1 ho
   obtain⟨k,hk,d0⟩:=hT 15 (by omega) (by kernel_rfl)
   exact wp_field rfl d0 (run_field_ins1 lb (k*5) w) (hK _ _ (Fr.refl C w) hS ⟨k,hk,rfl⟩)
def ops_drawOp : Array Oper := #[⟨some 109,.fieldAddr 26 (.tmp 3) 0,0,"l02_fn.go:308",#[],none⟩,⟨some 110,.load 24 (.tmp 109),24,"l02_fn.go:308",#[⟨0,.data⟩],none⟩,⟨some 111,.move (.tmp 4),3,"l02_fn.go:308",#[],none⟩,⟨some 112,.indexAddr 24 (.tmp 110) (.tmp 111),0,"l02_fn.go:308",#[⟨1,.data⟩,⟨2,.data⟩],none⟩,⟨some 113,.fieldAddr 44 (.tmp 112) 1,0,"l02_fn.go:308",#[⟨3,.data⟩],none⟩,⟨some 114,.load 40 (.tmp 113),40,"l02_fn.go:308",#[⟨4,.data⟩],none⟩,⟨some 115,.move (.tmp 0),66,"l02_fn.go:308",#[],none⟩,⟨some 116,.move (.tmp 5),3,"l02_fn.go:308",#[],none⟩,⟨some 117,.call ⟨.value (.func 83),#[.tmp 115,.tmp 116],#[66,3]⟩,3,"l02_fn.go:308",#[⟨6,.data⟩,⟨7,.data⟩],none⟩,⟨some 118,.move (.tmp 0),66,"l02_fn.go:308",#[],none⟩,⟨some 119,.buildSlice 29 10 #[(0,.const (.int .i64 0)),(1,.const (.int .i64 1)),(2,.const (.int .i64 11)),(3,.const (.int .i64 20)),(4,.const (.int .i64 21)),(5,.const (.int .i64 22)),(6,.const (.int .i64 23)),(7,.const (.int .i64 24)),(8,.const (.int .i64 25)),(9,.const (.int .i64 26))],29,"l02_fn.go:308",#[],none⟩,⟨some 120,.call ⟨.value (.func 84),#[.tmp 118,.tmp 119],#[66,29]⟩,3,"l02_fn.go:308",#[⟨9,.data⟩,⟨10,.data⟩,⟨8,.chain⟩],none⟩,⟨some 121,.indexAddr 40 (.tmp 114) (.tmp 117),0,"l02_fn.go:308",#[⟨5,.data⟩,⟨8,.data⟩,⟨0,.phase⟩,⟨1,.phase⟩,⟨2,.phase⟩,⟨3,.phase⟩,⟨4,.phase⟩,⟨5,.phase⟩,⟨6,.phase⟩,⟨7,.phase⟩,⟨8,.phase⟩,⟨9,.phase⟩,⟨10,.phase⟩,⟨11,.phase⟩],none⟩,⟨some 122,.fieldAddr 46 (.tmp 121) 0,0,"l02_fn.go:308",#[⟨12,.data⟩,⟨0,.phase⟩,⟨1,.phase⟩,⟨2,.phase⟩,⟨3,.phase⟩,⟨4,.phase⟩,⟨5,.phase⟩,⟨6,.phase⟩,⟨7,.phase⟩,⟨8,.phase⟩,⟨9,.phase⟩,⟨10,.phase⟩,⟨11,.phase⟩],none⟩,⟨none,.store 3 (.tmp 122) (.tmp 120),0,"l02_fn.go:308",#[⟨13,.data⟩,⟨11,.data⟩,⟨11,.chain⟩,⟨0,.phase⟩,⟨1,.phase⟩,⟨2,.phase⟩,⟨3,.phase⟩,⟨4,.phase⟩,⟨5,.phase⟩,⟨6,.phase⟩,⟨7,.phase⟩,⟨8,.phase⟩,⟨9,.phase⟩,⟨10,.phase⟩,⟨11,.phase⟩],none⟩]
def TL_drawOp (C lo FB R0 g n cap b nn lb lcap:Nat)(vals:Int)(w0:World):List (Value→World→Prop) := [(fun v w=>v = .pointer (some ⟨FB,0,none⟩)),(fun v w=>v = .slice (some ⟨g,0,none⟩) n cap),(fun v w=>v = .int .i64 (b:Int)),(fun v w=>v = .pointer (some ⟨g,b*6,none⟩)),(fun v w=>v = .pointer (some ⟨g,b*6+1,none⟩)),(fun v w=>v = .slice (some ⟨lb,0,none⟩) nn lcap),(fun v w=>v = .pointer (some ⟨C,0,none⟩)),(fun v w=>v = .int .i64 (nn:Int)),(fun v w=>∃k:Nat,k<nn∧v = .int .i64 (k:Int)),(fun v w=>v = .pointer (some ⟨C,0,none⟩)),(fun v w=>∃bb,v = .slice (some ⟨bb,0,none⟩) 10 10∧bb≠C∧bb<w.heap.size∧∀k,k<10→w.cell? ⟨bb,k,none⟩=some (.int .i64 ([0,1,11,20,21,22,23,24,25,26].getD k 0))),(fun v w=>∃z:Int,v = .int .i64 z),(fun v w=>∃k:Nat,k<nn∧v = .pointer (some ⟨lb,k*5,none⟩)),(fun v w=>∃k:Nat,k<nn∧v = .pointer (some ⟨lb,k*5,none⟩))]
def TT_drawOp (C lo FB R0 g n cap b nn lb lcap:Nat)(vals:Int)(w0:World)(j:Nat)(v:Value)(w:World):Prop:=((TL_drawOp C lo FB R0 g n cap b nn lb lcap vals w0).getD j (fun _ _=>True)) v w
theorem ops_drawOp_acyc : ∀(i:Nat) (o:Oper),ops_drawOp[i]? = some o→∀e∈o.after,e.on<i:=by
 have h:(List.range 15).all (fun i=>match ops_drawOp[i]? with | some o=>o.after.all (fun e=>decide (e.on<i)) | none=>true)=true:=by kernel_rfl
 intro i o ho e he
 have hi:i<15:=(Array.getElem?_eq_some_iff.1 ho).1
 have:=List.all_eq_true.1 h i (List.mem_range.2 hi)
 rw[ho] at this
 simp only[Array.all_eq_true'] at this
 simpa using this e he
theorem ops_drawOp_plain : ∀(i:Nat) (o:Oper),ops_drawOp[i]? = some o→o.guard=none:=by
 have h:(List.range 15).all (fun i=>match ops_drawOp[i]? with | some o=>o.guard.isNone | none=>true)=true:=by kernel_rfl
 intro i o ho
 have hi:i<15:=(Array.getElem?_eq_some_iff.1 ho).1
 have:=List.all_eq_true.1 h i (List.mem_range.2 hi)
 rw[ho] at this
 simpa using this
theorem ops_drawOp_all : ∀li:Array Bool,Closed .any ops_drawOp li→(∀o,ops_drawOp[14]? = some o→∀e∈o.after,Region.binds .any e=true→li.getD e.on false=true)→∀j,j<14→li.getD j false=true:=by
 intro li hc hl
 have hlast:∀i,waitsFor .any ops_drawOp 14 i=true→li.getD i false=true:=fun i hi=>by
  obtain⟨e,he,hb,h2⟩:=waitsFor_spec hi (Array.getElem?_eq_getElem (by decide:14<ops_drawOp.size))
  rw[←h2]
  exact hl _ (Array.getElem?_eq_getElem (by decide:14<ops_drawOp.size)) e he hb
 have hback:∀j i,j<14→li.getD j false=true→waitsFor .any ops_drawOp j i=true→li.getD i false=true:=fun j i hj hjl hi=>by
  have hjs:j<ops_drawOp.size:=by show j<15;omega
  obtain⟨e,he,hb,h2⟩:=waitsFor_spec hi (Array.getElem?_eq_getElem hjs)
  rw[←h2]
  exact hc j _ (Array.getElem?_eq_getElem hjs) hjl e he hb
 have hone:∀i,i<14→(waitsFor .any ops_drawOp 14 i=true∨(∃k,k<14∧waitsFor .any ops_drawOp 14 k=true∧waitsFor .any ops_drawOp k i=true)∨∃k m,k<14∧m<14∧waitsFor .any ops_drawOp 14 m=true∧waitsFor .any ops_drawOp m k=true∧waitsFor .any ops_drawOp k i=true):=by
  have hall:(List.range 14).all (fun i=>waitsFor .any ops_drawOp 14 i || (List.range 14).any (fun k=>waitsFor .any ops_drawOp 14 k && waitsFor .any ops_drawOp k i) || (List.range 14).any (fun k=>(List.range 14).any (fun m=>waitsFor .any ops_drawOp 14 m && (waitsFor .any ops_drawOp m k && waitsFor .any ops_drawOp k i))))=true:=by kernel_rfl
  intro i hi
  have:=List.all_eq_true.1 hall i (List.mem_range.2 hi)
  simp only[Bool.or_eq_true,List.any_eq_true,List.mem_range,Bool.and_eq_true] at this
  rcases this with (h | ⟨k,hk,h1,h2⟩) | ⟨k,hk,m,hm,h1,h2,h3⟩
  ·exact .inl h
  ·exact .inr (.inl ⟨k,hk,h1,h2⟩)
  ·exact .inr (.inr ⟨k,m,hk,hm,h1,h2,h3⟩)
 intro j hj
 rcases hone j hj with h | ⟨k,hk,h1,h2⟩ | ⟨k,m,hk,hm,h1,h2,h3⟩
 ·exact hlast j h
 ·exact hback k j hk (hlast k h1) h2
 ·exact hback k j hk (hback m k hm (hlast m h1) h2) h3
theorem TT_drawOp_stab (C lo FB R0 g n cap b nn lb lcap:Nat)(vals:Int)(w0:World)(hC:C<lo):∀j v w w',TT_drawOp C lo FB R0 g n cap b nn lb lcap vals w0 j v w→Fr C w w'→TT_drawOp C lo FB R0 g n cap b nn lb lcap vals w0 j v w':=by
 intro j v w w' h hf
 have hk:=KeepLo.fr hf hC
 by_cases hj:j<14
 ·have hj':j=0∨j=1∨j=2∨j=3∨j=4∨j=5∨j=6∨j=7∨j=8∨j=9∨j=10∨j=11∨j=12∨j=13:=by omega
  rcases hj' with rfl | rfl | rfl | rfl | rfl | rfl | rfl | rfl | rfl | rfl | rfl | rfl | rfl | rfl
  ·exact h
  ·exact h
  ·exact h
  ·exact h
  ·exact h
  ·exact h
  ·exact h
  ·exact h
  ·obtain⟨k,h1,h2⟩:=h
   exact⟨k,h1,h2⟩
  ·exact h
  ·obtain⟨bb,h1,h2,h3,h4⟩:=h
   exact⟨bb,h1,h2,Nat.lt_of_lt_of_le h3 hf.size,fun k hk=>(hf.cell (x:=⟨bb,k,none⟩) h3 h2).trans (h4 k hk)⟩
  ·obtain⟨z,h1⟩:=h
   exact⟨z,h1⟩
  ·obtain⟨k,h1,h2⟩:=h
   exact⟨k,h1,h2⟩
  ·obtain⟨k,h1,h2⟩:=h
   exact⟨k,h1,h2⟩
 ·unfold TT_drawOp at h ⊢
  have hlen:(TL_drawOp C lo FB R0 g n cap b nn lb lcap vals w0).length=14:=rfl
  rw[List.getD_eq_getElem?_getD,List.getElem?_eq_none (by omega)]
  trivial
set_option maxRecDepth 100000 in
set_option maxHeartbeats 16000000 in
theorem drawOp (C lo FB R0 g n cap b nn lb lcap:Nat)(vals:Int)(w0:World)(G:Nat)(B:List Bk)(x:Bk)(D:DSt w0 C lo G B)(gs:GenSt w0 C lo G (.slice (some ⟨g,0,none⟩) B.length cap) B vals)(hBn:B.length=n)(hb:b<n)(hx:B[b]? = some x)(fb:∃fv,w0.heap[FB]? = some (.cells #[.slice (some ⟨g,0,none⟩) n cap,.int .i64 vals] 26 fv))(hFC:FB≠C)(rb:∃c fv,w0.heap[R0]? = some (.cells c 26 fv))(hRC:R0≠C)(hlvx:x.lv = .slice (some ⟨lb,0,none⟩) nn lcap)(hlnx:x.ln=nn)(hnn:0<nn)(a0:Act)(hsz:a0.tmps.size=173)(h0:a0.eval (.tmp 0) = .pointer (some ⟨C,0,none⟩))(h3:a0.eval (.tmp 3) = .pointer (some ⟨FB,0,none⟩))(h4:a0.eval (.tmp 4) = .int .i64 (b:Int))(h5:a0.eval (.tmp 5) = .int .i64 (nn:Int))
  (Q:Exit→Act→World→Prop) (hQ:∀(f:Nat→Value) (W':World),(fun W=>ProgOk lo g n cap W∧W.heap[FB]? = w0.heap[FB]?∧W.heap[R0]? = w0.heap[R0]?∧Below C w0 W∧Cur W C) W'→Q .normal (putL a0 (List.range' 109 14) f) W') :
  wpAny Tryz.prog .any ops_drawOp Q 15 (Array.replicate 15 false) a0 w0:=by
 obtain⟨fv,fb⟩:=fb
 obtain⟨rc,rv,rb⟩:=rb
 have hFw:FB<w0.heap.size:=(Array.getElem?_eq_some_iff.1 fb).1
 have hRw:R0<w0.heap.size:=(Array.getElem?_eq_some_iff.1 rb).1
 have hfb:∀w,Cur w C∧Fr C w0 w→w.cell? ⟨FB,0,none⟩=some (.slice (some ⟨g,0,none⟩) n cap)∧w.cell? ⟨FB,1,none⟩=some (.int .i64 vals):=fun w hS=>⟨(hS.2.cell (x:=⟨FB,0,none⟩) hFw hFC).trans (by simp[World.cell?,fb]),(hS.2.cell (x:=⟨FB,1,none⟩) hFw hFC).trans (by simp[World.cell?,fb])⟩
 obtain⟨g0,cap0,e0,hlog,hgw,hgG,hgc,hgf⟩:=gs.at hx
 cases e0
 have hgC:g≠C:=by have:=D.hC;omega
 have hty:∀k c z,w0.heap[k]? = some (.cells c 26 z)→k≠g:=fun k c z hk e=>by
  obtain⟨c2,hc2⟩:=ownsRow_typed gs.row g rfl
  rw[e,hc2] at hk
  cases hk
 have hDS:∀w,Cur w C∧Fr C w0 w→DSt w C lo G B∧GenSt w C lo G (.slice (some ⟨g,0,none⟩) B.length cap) B vals:=fun w hS=>⟨D.draw hS.2 hS.1,gs.lo D.hG (KeepLo.fr hS.2 D.hC)⟩
 have hqw:∀w,Cur w C∧Fr C w0 w→∀j,j<6→∃u,w.cell? ⟨g,b*6+j,none⟩=some u∧w.frozen? ⟨g,b*6+j,none⟩=false:=fun w hS j hj=>by
  have h6:x.cells[j]? = some (x.cells[j]'(by simpa [Bk.cells] using hj)):=List.getElem?_eq_getElem _
  exact⟨_,(hS.2.cell (x:=⟨g,b*6+j,none⟩) hgw hgC).trans (hgc j _ hj h6),(hS.2.frozen (x:=⟨g,b*6+j,none⟩) hgw hgC).trans (hgf _)⟩
 obtain⟨ixs,hix,hii,hi24⟩:=gs.ins b x hx
 rw[hlvx,hlnx] at hix
 have hlbw:lb<w0.heap.size:=ownsRow_lt hix lb rfl
 have hlbl:lo≤lb:=(World.ownsRow.lt hix lb rfl).1
 have hlbC:lb≠C:=by have:=D.hC;omega
 have hlv:∀w,Cur w C∧Fr C w0 w→w.cell? ⟨g,b*6+1,none⟩=some (.slice (some ⟨lb,0,none⟩) nn lcap):=fun w hS=>(hS.2.cell (x:=⟨g,b*6+1,none⟩) hgw hgC).trans (hgc 1 _ (by omega) (by rw[←hlvx];rfl))
 refine wpAny_inv (N:=14) (s0:=109) (a0:=a0) (S:=fun w=>Cur w C∧Fr C w0 w) (R:=Fr C) (T:=TT_drawOp C lo FB R0 g n cap b nn lb lcap vals w0) (Post:=fun W=>ProgOk lo g n cap W∧W.heap[FB]? = w0.heap[FB]?∧W.heap[R0]? = w0.heap[R0]?∧Below C w0 W∧Cur W C)
  rfl (by omega) ops_drawOp_acyc ops_drawOp_plain ops_drawOp_all (TT_drawOp_stab C lo FB R0 g n cap b nn lb lcap vals w0 D.hC) ?hop ?hlast ?hQ 15 _ a0 w0 (by simp) ⟨by simp,fun j o ho hj=>?cl,rfl,rfl,fun _ _=>rfl,.inl ⟨by simp,⟨D.cur,Fr.refl _ _⟩,fun j hj hjl=>?nt⟩⟩
 case cl=>
  have:(Array.replicate 15 false).getD j false=false:=by simp[Array.getD]
  rw[this] at hj
  cases hj
 case nt=>
  have:(Array.replicate 15 false).getD j false=false:=by simp[Array.getD]
  rw[this] at hjl
  cases hjl
 case hQ=>
  intro a w e1 e2 e3 hP
  rw[act_fill e1 e2 e3]
  exact hQ _ w hP
 case hlast=>
  intro o ho a w es eo hS hT K hK
  obtain⟨_,rfl⟩:=Array.getElem?_eq_some_iff.1 ho
  have ev:∀t:Nat,t<109→a.eval (.tmp t)=a0.eval (.tmp t):=fun t ht=>by
   show a.tmps.getD t undef=a0.tmps.getD t undef
   rw[Array.getD_eq_getD_getElem?,Array.getD_eq_getD_getElem?,eo t (.inl ht)]
  obtain⟨z,d0⟩:=hT 11 (by omega)
  obtain⟨k,hk,d1⟩:=hT 13 (by omega)
  obtain⟨dw,gw⟩:=hDS w hS
  obtain⟨⟨u,q⟩,r,hpr,hft⟩:=gw.setIns hBn hx hlvx hlnx hk (f:=0) (by omega) z
  refine wp_skip_of (run_storeOp rfl d1 d0 (run_store_int q r z)) (hK _ ⟨hpr,?_,?_,?_,hS.1.below D.hC ((Below.refl lo w).setCell (p:=⟨lb,k*5+0,none⟩) hlbl _)⟩)
  ·exact(Below.heap_setCell _ _ _ FB (fun e=>hft FB _ _ ((hS.2.block FB hFw hFC).trans fb) e)).trans (hS.2.block FB hFw hFC)
  ·exact(Below.heap_setCell _ _ _ R0 (fun e=>hft R0 _ _ ((hS.2.block R0 hRw hRC).trans rb) e)).trans (hS.2.block R0 hRw hRC)
  ·exact(hS.2.belowAt (Nat.le_of_lt D.cur.lt)).trans ((Below.refl C w).setCell (p:=⟨lb,k*5,none⟩) (by show C≤lb;have:=D.hC;omega) _)
 case hop=>
  intro j hj o ho a w es eo hS hT K hK
  have ev:∀t:Nat,t<109→a.eval (.tmp t)=a0.eval (.tmp t):=fun t ht=>by
   show a.tmps.getD t undef=a0.tmps.getD t undef
   rw[Array.getD_eq_getD_getElem?,Array.getD_eq_getD_getElem?,eo t (.inl ht)]
  have hj':j=0∨j=1∨j=2∨j=3∨j=4∨j=5∨j=6∨j=7∨j=8∨j=9∨j=10∨j=11∨j=12∨j=13:=by omega
  rcases hj' with rfl | rfl | rfl | rfl | rfl | rfl | rfl | rfl | rfl | rfl | rfl | rfl | rfl | rfl
  ·obtain⟨_,rfl⟩:=Array.getElem?_eq_some_iff.1 ho
   exact wp_field rfl ((ev 3 (by omega)).trans h3) (run_field_fn0 FB 0 w) (hK _ _ (Fr.refl C w) hS rfl)
  ·obtain⟨_,rfl⟩:=Array.getElem?_eq_some_iff.1 ho
   have d0:=hT 0 (by omega) (by kernel_rfl)
   exact wp_load rfl d0 (run_load_blocks0 (hfb w hS).1) (hK _ _ (Fr.refl C w) hS rfl)
  ·obtain⟨_,rfl⟩:=Array.getElem?_eq_some_iff.1 ho
   exact wp_move rfl ((ev 4 (by omega)).trans h4) (hK _ _ (Fr.refl C w) hS rfl)
  ·obtain⟨_,rfl⟩:=Array.getElem?_eq_some_iff.1 ho
   have d0:=hT 1 (by omega) (by kernel_rfl)
   have d1:=hT 2 (by omega) (by kernel_rfl)
   exact wp_index rfl d0 d1 (run_index_block hb w) (hK _ _ (Fr.refl C w) hS rfl)
  ·obtain⟨_,rfl⟩:=Array.getElem?_eq_some_iff.1 ho
   have d0:=hT 3 (by omega) (by kernel_rfl)
   exact wp_field rfl d0 (run_field_block1 g (b*6) w) (hK _ _ (Fr.refl C w) hS rfl)
  ·obtain⟨_,rfl⟩:=Array.getElem?_eq_some_iff.1 ho
   have d0:=hT 4 (by omega) (by kernel_rfl)
   exact wp_load rfl d0 (run_load_list (hlv w hS)) (hK _ _ (Fr.refl C w) hS rfl)
  ·obtain⟨_,rfl⟩:=Array.getElem?_eq_some_iff.1 ho
   exact wp_move rfl ((ev 0 (by omega)).trans h0) (hK _ _ (Fr.refl C w) hS rfl)
  ·obtain⟨_,rfl⟩:=Array.getElem?_eq_some_iff.1 ho
   exact wp_move rfl ((ev 5 (by omega)).trans h5) (hK _ _ (Fr.refl C w) hS rfl)
  ·obtain⟨_,rfl⟩:=Array.getElem?_eq_some_iff.1 ho
   have d0:=hT 6 (by omega) (by kernel_rfl)
   have d1:=hT 7 (by omega) (by kernel_rfl)
   refine wp_call_of (f:=83) (args := #[.pointer (some ⟨C,0,none⟩),.int .i64 (nn:Int)]) (runCall2 rfl d0 d1 (enters_of Tryz.func83 (by kernel_rfl) rfl) _) (below_any C _ w hS.1) ?_
   rintro e w1 ⟨z,rfl,hz0,hz1,_,hf,hc⟩
   have hz2:=hz1 (by omega)
   exact⟨_,rfl,hK _ _ hf ⟨hc,hS.2.trans hf⟩ ⟨z.toNat,by omega,by rw[Int.toNat_of_nonneg hz0]⟩⟩
  ·obtain⟨_,rfl⟩:=Array.getElem?_eq_some_iff.1 ho
   exact wp_move rfl ((ev 0 (by omega)).trans h0) (hK _ _ (Fr.refl C w) hS rfl)
  ·obtain⟨_,rfl⟩:=Array.getElem?_eq_some_iff.1 ho
   exact wp_value_of (run_ops10 rfl w) (hK _ _ (Fr.ofBelow (Bel.alloc w _)) ⟨hS.1.later (Bel.alloc _ _),hS.2.trans (Fr.ofBelow (Bel.alloc _ _))⟩ ⟨_,rfl,by have:=hS.1.lt;omega,by simp,cells10_at w⟩)
  ·obtain⟨_,rfl⟩:=Array.getElem?_eq_some_iff.1 ho
   have d0:=hT 9 (by omega) (by kernel_rfl)
   obtain⟨bb,d1,hbb,hbl,hcs⟩:=hT 10 (by omega) (by kernel_rfl)
   refine wp_call_of (f:=84) (args := #[.pointer (some ⟨C,0,none⟩),.slice (some ⟨bb,0,none⟩) 10 10]) (runCall2 rfl d0 d1 (enters_of Tryz.func84 (by kernel_rfl) rfl) _) (pickint_any C bb [0,1,11,20,21,22,23,24,25,26] 10 w hS.1 hbb rfl (by omega) (by omega) hcs) ?_
   rintro e w1 ⟨z,rfl,_,hf,hc⟩
   exact⟨_,rfl,hK _ _ hf ⟨hc,hS.2.trans hf⟩ ⟨z,rfl⟩⟩
  ·obtain⟨_,rfl⟩:=Array.getElem?_eq_some_iff.1 ho
   have d0:=hT 5 (by omega) (by kernel_rfl)
   obtain⟨k,hk,d1⟩:=hT 8 (by omega) (by kernel_rfl)
   exact wp_index rfl d0 d1 (run_index_list hk w) (hK _ _ (Fr.refl C w) hS ⟨k,hk,rfl⟩)
  ·obtain⟨_,rfl⟩:=Array.getElem?_eq_some_iff.1 ho
   obtain⟨k,hk,d0⟩:=hT 12 (by omega) (by kernel_rfl)
   exact wp_field rfl d0 (run_field_ins0 lb (k*5) w) (hK _ _ (Fr.refl C w) hS ⟨k,hk,rfl⟩)
theorem run_field_phi1 (G:Nat)(W:World):(Instr.fieldAt 74 (.pointer (some ⟨G,0,none⟩)) 1).run Tryz.prog W = .ok (.pointer (some ⟨G,1,none⟩)) W:=by kernel_rfl
theorem run_index_phi0 {g n cap:Nat}(hi:0<n)(W:World):(Instr.indexAt 39 (.slice (some ⟨g,0,none⟩) n cap) (.int .i64 0)).run Tryz.prog W = .ok (.pointer (some ⟨g,0,none⟩)) W:=by
 simp[Instr.indexAt,asIntOf,Sem.run_bind,run_underlying Tryz.underlying39,Tryz.sizeOf74,Addr.add]
 intro h;omega
theorem run_load_arms {w:World}{g j:Nat}{v:Value}(h:w.cell? ⟨g,j,none⟩=some v):(Instr.loadAt 72 (.pointer (some ⟨g,j,none⟩))).run Tryz.prog w = .ok v w:=by
 simp[Instr.loadAt,Instr.sureAddr,go_sem,h]
theorem run_store_arms {w:World}{g j:Nat}{u:Value}(h:w.cell? ⟨g,j,none⟩=some u)(hf:w.frozen? ⟨g,j,none⟩=false)(a:Option Addr)(n c:Nat):(Instr.storeAt 72 (.pointer (some ⟨g,j,none⟩)) (.slice a n c)).run Tryz.prog w = .ok () (w.setCell ⟨g,j,none⟩ (.slice a n c)):=by
 simp[Instr.storeAt,Instr.sureAddr,go_sem,h,hf]
theorem run_sliceTail {o:Oper}{a:Act}{x:Operand}{v v':Value}{w:World}(ho:o.op = .slice 72 x (some (.const (.int .i64 1))) none none)(hx:a.eval x=v)(h:(Instr.sliceAt 72 v (some (.int .i64 1)) none none).run Tryz.prog w = .ok v' w):(execOp a.eval o).run Tryz.prog w = .ok (.value v') w:=by
 have h0:a.eval (.const (.int .i64 1)) = .int .i64 1:=rfl
 simp[execOp,ho,hx,h0,h]
theorem arms_tail {w:World}{lo al:Nat}{av:Value}(h:ArmRow1 w lo av al):∃(a:Option Addr) (k c:Nat),(Instr.sliceAt 72 av (some (.int .i64 1)) none none).run Tryz.prog w = .ok (.slice a k c) w∧ArmRow w lo (.slice a k c) k:=by
 obtain⟨⟨a,cap,rfl,h1,h2,h3⟩,h4⟩:=h
 obtain⟨b,off,cur,rfl,h5,h6,h7⟩:=h3 h4
 have hal:(1:Int)≤(al:Int):=by omega
 refine⟨if cap=1 then some ⟨b,off,none⟩ else some ⟨b,off+2,none⟩,al-1,cap-1,?_,?_⟩
 ·simp[Instr.sliceAt,go_sem]
  omega
 ·refine⟨_,_,rfl,by omega,by omega,fun hp=>⟨b,off+2,cur,?_,h5,h6,fun j hj=>?_⟩⟩
  ·have:cap≠1:=by omega
   simp[this]
  ·obtain⟨z,hz⟩:=h7 (2+j) (by omega)
   exact⟨z,by rw[Nat.add_assoc];exact hz⟩
theorem GenSt.setArms {w:World}{C lo G g n cap b pb pn pcap k2 c2:Nat}{a2:Option Addr}{B:List Bk}{x:Bk}{vals:Int}(h:GenSt w C lo G (.slice (some ⟨g,0,none⟩) B.length cap) B vals)(hBn:B.length=n)(hx:B[b]? = some x)(hpv:x.pv = .slice (some ⟨pb,0,none⟩) pn pcap)(hpn:x.pn=pn)(h0:0<pn)(ha:ArmRow w lo (.slice a2 k2 c2) k2) :
  w.frozen? ⟨pb,1,none⟩=false∧ProgOk lo g n cap (w.setCell ⟨pb,1,none⟩ (.slice a2 k2 c2))∧∀r c fv,w.heap[r]? = some (.cells c 26 fv)→r≠pb:=by
 obtain⟨xs,hxs,hph,h4n⟩:=h.phi b x hx
 rw[hpv,hpn] at hxs
 have hxl:=hxs.1
 rcases hxs.2 with ⟨e,_⟩ | ⟨g',cap',cur,e,hlo,hg,h1,h2,h3,h4⟩
 ·cases e
 ·cases e
  have hcs:1<cur.size:=by omega
  have hgr:=grown_set' w pb 1 (.slice a2 k2 c2)
  have hoB:∀{e:TypeId},74≠e→Other w (some pb) e:=fun he r hr=>by cases hr;exact⟨_,_,_,hg,he⟩
  refine⟨by simp[World.frozen?,hg],⟨B,hBn,?_,fun i y hy=>?_,fun i y hy=>?_⟩,fun r c fv hr e=>?_⟩
  ·rw[←hBn]
   exact ownsRow_other h.row hgr (hoB (by decide))
  ·exact(h.ins i y hy).other hgr (hoB (by decide))
  ·by_cases e:i=b
   ·subst e
    rw[hx] at hy
    cases hy
    refine⟨xs.set 1 (.slice a2 k2 c2),?_,fun j hj=>?_⟩
    ·rw[hpv,hpn]
     refine⟨by rw[List.length_set];exact hxl,.inr ⟨pb,pcap,cur.setIfInBounds 1 (.slice a2 k2 c2),rfl,hlo,?_,h1,h2,by simpa using h3,?_⟩⟩
     ·obtain⟨hlt,hkk⟩:=Array.getElem?_eq_some_iff.1 hg
      show(w.heap.modify pb _)[pb]? = _
      rw[Array.getElem?_eq_getElem (by rw[Array.size_modify];exact hlt),Array.getElem_modify_self,hkk]
      rfl
     ·rw[←h4]
      apply List.ext_getElem?
      intro m
      simp only[Array.toList_setIfInBounds,List.getElem?_take,List.getElem?_set]
      by_cases hm:m<pn*2
      ·simp only[hm,if_true]
       by_cases e:1=m
       ·subst e
        simp[hcs]
        omega
       ·simp[e]
      ·simp[hm]
       omega
    ·obtain⟨d,av,al,e1,e2,e3⟩:=hph j hj
     by_cases hj0:j=0
     ·subst hj0
      exact⟨d,.slice a2 k2 c2,k2,by simpa using e1,by
       have:1<xs.length:=by omega
       simp[this],ha.other hgr (hoB (by decide))⟩
     ·exact⟨d,av,al,by rw[List.getElem?_set_ne (by omega)];exact e1,by rw[List.getElem?_set_ne (by omega)];exact e2,e3.1.other hgr (hoB (by decide))⟩
   ·exact((h.phi i y hy).apart hgr (fun r hr=>by
     cases hr
     intro e2
     exact h.apP b i x y (fun e3=>e e3.symm) hx hy pb (by rw[hpv];rfl) e2) (hoB (by decide))).weak
  ·rw[e,hg] at hr
   cases hr
def ops_drawArms : Array Oper := #[⟨some 133,.fieldAddr 26 (.tmp 3) 0,0,"l02_fn.go:312",#[],none⟩,⟨some 134,.load 24 (.tmp 133),24,"l02_fn.go:312",#[⟨0,.data⟩],none⟩,⟨some 135,.move (.tmp 4),3,"l02_fn.go:312",#[],none⟩,⟨some 136,.indexAddr 24 (.tmp 134) (.tmp 135),0,"l02_fn.go:312",#[⟨1,.data⟩,⟨2,.data⟩],none⟩,⟨some 137,.fieldAddr 44 (.tmp 136) 0,0,"l02_fn.go:312",#[⟨3,.data⟩],none⟩,⟨some 138,.load 39 (.tmp 137),39,"l02_fn.go:312",#[⟨4,.data⟩],none⟩,⟨some 139,.fieldAddr 26 (.tmp 3) 0,0,"l02_fn.go:312",#[],none⟩,⟨some 140,.load 24 (.tmp 139),24,"l02_fn.go:312",#[⟨6,.data⟩],none⟩,⟨some 141,.move (.tmp 4),3,"l02_fn.go:312",#[],none⟩,⟨some 142,.indexAddr 24 (.tmp 140) (.tmp 141),0,"l02_fn.go:312",#[⟨7,.data⟩,⟨8,.data⟩],none⟩,⟨some 143,.fieldAddr 44 (.tmp 142) 0,0,"l02_fn.go:312",#[⟨9,.data⟩],none⟩,⟨some 144,.load 39 (.tmp 143),39,"l02_fn.go:312",#[⟨10,.data⟩],none⟩,⟨some 145,.indexAddr 39 (.tmp 144) (.const (.int .i64 0)),0,"l02_fn.go:312",#[⟨11,.data⟩],none⟩,⟨some 146,.fieldAddr 74 (.tmp 145) 1,0,"l02_fn.go:312",#[⟨12,.data⟩],none⟩,⟨some 147,.load 72 (.tmp 146),72,"l02_fn.go:312",#[⟨13,.data⟩],none⟩,⟨some 148,.slice 72 (.tmp 147) (some (.const (.int .i64 1))) none none,72,"l02_fn.go:312",#[⟨14,.data⟩],none⟩,⟨some 149,.indexAddr 39 (.tmp 138) (.const (.int .i64 0)),0,"l02_fn.go:312",#[⟨5,.data⟩,⟨0,.phase⟩,⟨1,.phase⟩,⟨2,.phase⟩,⟨3,.phase⟩,⟨4,.phase⟩,⟨5,.phase⟩,⟨6,.phase⟩,⟨7,.phase⟩,⟨8,.phase⟩,⟨9,.phase⟩,⟨10,.phase⟩,⟨11,.phase⟩,⟨12,.phase⟩,⟨13,.phase⟩,⟨14,.phase⟩,⟨15,.phase⟩],none⟩,⟨some 150,.fieldAddr 74 (.tmp 149) 1,0,"l02_fn.go:312",#[⟨16,.data⟩,⟨0,.phase⟩,⟨1,.phase⟩,⟨2,.phase⟩,⟨3,.phase⟩,⟨4,.phase⟩,⟨5,.phase⟩,⟨6,.phase⟩,⟨7,.phase⟩,⟨8,.phase⟩,⟨9,.phase⟩,⟨10,.phase⟩,⟨11,.phase⟩,⟨12,.phase⟩,⟨13,.phase⟩,⟨14,.phase⟩,⟨15,.phase⟩],none⟩,⟨none,.store 72 (.tmp 150) (.tmp 148),0,"l02_fn.go:312",#[⟨17,.data⟩,⟨15,.data⟩,⟨0,.phase⟩,⟨1,.phase⟩,⟨2,.phase⟩,⟨3,.phase⟩,⟨4,.phase⟩,⟨5,.phase⟩,⟨6,.phase⟩,⟨7,.phase⟩,⟨8,.phase⟩,⟨9,.phase⟩,⟨10,.phase⟩,⟨11,.phase⟩,⟨12,.phase⟩,⟨13,.phase⟩,⟨14,.phase⟩,⟨15,.phase⟩],none⟩]
def TL_drawArms (C lo FB R0 g n cap b nn pb pn pcap:Nat)(av:Value)(vals:Int)(w0:World):List (Value→World→Prop) := [(fun v w=>v = .pointer (some ⟨FB,0,none⟩)),(fun v w=>v = .slice (some ⟨g,0,none⟩) n cap),(fun v w=>v = .int .i64 (b:Int)),(fun v w=>v = .pointer (some ⟨g,b*6,none⟩)),(fun v w=>v = .pointer (some ⟨g,b*6,none⟩)),(fun v w=>v = .slice (some ⟨pb,0,none⟩) pn pcap),(fun v w=>v = .pointer (some ⟨FB,0,none⟩)),(fun v w=>v = .slice (some ⟨g,0,none⟩) n cap),(fun v w=>v = .int .i64 (b:Int)),(fun v w=>v = .pointer (some ⟨g,b*6,none⟩)),(fun v w=>v = .pointer (some ⟨g,b*6,none⟩)),(fun v w=>v = .slice (some ⟨pb,0,none⟩) pn pcap),(fun v w=>v = .pointer (some ⟨pb,0,none⟩)),(fun v w=>v = .pointer (some ⟨pb,1,none⟩)),(fun v w=>v=av),(fun v w=>∃(a:Option Addr) (k c:Nat),v = .slice a k c∧ArmRow w lo (.slice a k c) k),(fun v w=>v = .pointer (some ⟨pb,0,none⟩)),(fun v w=>v = .pointer (some ⟨pb,1,none⟩))]
def TT_drawArms (C lo FB R0 g n cap b nn pb pn pcap:Nat)(av:Value)(vals:Int)(w0:World)(j:Nat)(v:Value)(w:World):Prop:=((TL_drawArms C lo FB R0 g n cap b nn pb pn pcap av vals w0).getD j (fun _ _=>True)) v w
theorem ops_drawArms_acyc : ∀(i:Nat) (o:Oper),ops_drawArms[i]? = some o→∀e∈o.after,e.on<i:=by
 have h:(List.range 19).all (fun i=>match ops_drawArms[i]? with | some o=>o.after.all (fun e=>decide (e.on<i)) | none=>true)=true:=by kernel_rfl
 intro i o ho e he
 have hi:i<19:=(Array.getElem?_eq_some_iff.1 ho).1
 have:=List.all_eq_true.1 h i (List.mem_range.2 hi)
 rw[ho] at this
 simp only[Array.all_eq_true'] at this
 simpa using this e he
theorem ops_drawArms_plain : ∀(i:Nat) (o:Oper),ops_drawArms[i]? = some o→o.guard=none:=by
 have h:(List.range 19).all (fun i=>match ops_drawArms[i]? with | some o=>o.guard.isNone | none=>true)=true:=by kernel_rfl
 intro i o ho
 have hi:i<19:=(Array.getElem?_eq_some_iff.1 ho).1
 have:=List.all_eq_true.1 h i (List.mem_range.2 hi)
 rw[ho] at this
 simpa using this
theorem ops_drawArms_all : ∀li:Array Bool,Closed .any ops_drawArms li→(∀o,ops_drawArms[18]? = some o→∀e∈o.after,Region.binds .any e=true→li.getD e.on false=true)→∀j,j<18→li.getD j false=true:=by
 intro li hc hl
 have hlast:∀i,waitsFor .any ops_drawArms 18 i=true→li.getD i false=true:=fun i hi=>by
  obtain⟨e,he,hb,h2⟩:=waitsFor_spec hi (Array.getElem?_eq_getElem (by decide:18<ops_drawArms.size))
  rw[←h2]
  exact hl _ (Array.getElem?_eq_getElem (by decide:18<ops_drawArms.size)) e he hb
 have hback:∀j i,j<18→li.getD j false=true→waitsFor .any ops_drawArms j i=true→li.getD i false=true:=fun j i hj hjl hi=>by
  have hjs:j<ops_drawArms.size:=by show j<19;omega
  obtain⟨e,he,hb,h2⟩:=waitsFor_spec hi (Array.getElem?_eq_getElem hjs)
  rw[←h2]
  exact hc j _ (Array.getElem?_eq_getElem hjs) hjl e he hb
 have hone:∀i,i<18→(waitsFor .any ops_drawArms 18 i=true∨(∃k,k<18∧waitsFor .any ops_drawArms 18 k=true∧waitsFor .any ops_drawArms k i=true)∨∃k m,k<18∧m<18∧waitsFor .any ops_drawArms 18 m=true∧waitsFor .any ops_drawArms m k=true∧waitsFor .any ops_drawArms k i=true):=by
  have hall:(List.range 18).all (fun i=>waitsFor .any ops_drawArms 18 i || (List.range 18).any (fun k=>waitsFor .any ops_drawArms 18 k && waitsFor .any ops_drawArms k i) || (List.range 18).any (fun k=>(List.range 18).any (fun m=>waitsFor .any ops_drawArms 18 m && (waitsFor .any ops_drawArms m k && waitsFor .any ops_drawArms k i))))=true:=by kernel_rfl
  intro i hi
  have:=List.all_eq_true.1 hall i (List.mem_range.2 hi)
  simp only[Bool.or_eq_true,List.any_eq_true,List.mem_range,Bool.and_eq_true] at this
  rcases this with (h | ⟨k,hk,h1,h2⟩) | ⟨k,hk,m,hm,h1,h2,h3⟩
  ·exact .inl h
  ·exact .inr (.inl ⟨k,hk,h1,h2⟩)
  ·exact .inr (.inr ⟨k,m,hk,hm,h1,h2,h3⟩)
 intro j hj
 rcases hone j hj with h | ⟨k,hk,h1,h2⟩ | ⟨k,m,hk,hm,h1,h2,h3⟩
 ·exact hlast j h
 ·exact hback k j hk (hlast k h1) h2
 ·exact hback k j hk (hback m k hm (hlast m h1) h2) h3
theorem TT_drawArms_stab (C lo FB R0 g n cap b nn pb pn pcap:Nat)(av:Value)(vals:Int)(w0:World)(hC:C<lo):∀j v w w',TT_drawArms C lo FB R0 g n cap b nn pb pn pcap av vals w0 j v w→Fr C w w'→TT_drawArms C lo FB R0 g n cap b nn pb pn pcap av vals w0 j v w':=by
 intro j v w w' h hf
 have hk:=KeepLo.fr hf hC
 by_cases hj:j<18
 ·have hj':j=0∨j=1∨j=2∨j=3∨j=4∨j=5∨j=6∨j=7∨j=8∨j=9∨j=10∨j=11∨j=12∨j=13∨j=14∨j=15∨j=16∨j=17:=by omega
  rcases hj' with rfl | rfl | rfl | rfl | rfl | rfl | rfl | rfl | rfl | rfl | rfl | rfl | rfl | rfl | rfl | rfl | rfl | rfl
  ·exact h
  ·exact h
  ·exact h
  ·exact h
  ·exact h
  ·exact h
  ·exact h
  ·exact h
  ·exact h
  ·exact h
  ·exact h
  ·exact h
  ·exact h
  ·exact h
  ·exact h
  ·obtain⟨a,k,c,h1,h2⟩:=h
   exact⟨a,k,c,h1,h2.lo hk⟩
  ·exact h
  ·exact h
 ·unfold TT_drawArms at h ⊢
  have hlen:(TL_drawArms C lo FB R0 g n cap b nn pb pn pcap av vals w0).length=18:=rfl
  rw[List.getD_eq_getElem?_getD,List.getElem?_eq_none (by omega)]
  trivial
set_option maxRecDepth 100000 in
set_option maxHeartbeats 16000000 in
theorem drawArms (C lo FB R0 g n cap b nn pb pn pcap:Nat)(av:Value)(vals:Int)(w0:World)(G:Nat)(B:List Bk)(x:Bk)(D:DSt w0 C lo G B)(gs:GenSt w0 C lo G (.slice (some ⟨g,0,none⟩) B.length cap) B vals)(hBn:B.length=n)(hb:b<n)(hx:B[b]? = some x)(fb:∃fv,w0.heap[FB]? = some (.cells #[.slice (some ⟨g,0,none⟩) n cap,.int .i64 vals] 26 fv))(hFC:FB≠C)(rb:∃c fv,w0.heap[R0]? = some (.cells c 26 fv))(hRC:R0≠C)(al:Nat)(hpvx:x.pv = .slice (some ⟨pb,0,none⟩) pn pcap)(hpnx:x.pn=pn)(hpn:0<pn)(pxs:List Value)(hpo:w0.ownsRow lo 74 2 (.slice (some ⟨pb,0,none⟩) pn pcap) pn pxs)(hpa:pxs[1]? = some av)(hal0:ArmRow1 w0 lo av al)(a0:Act)(hsz:a0.tmps.size=173)(h0:a0.eval (.tmp 0) = .pointer (some ⟨C,0,none⟩))(h3:a0.eval (.tmp 3) = .pointer (some ⟨FB,0,none⟩))(h4:a0.eval (.tmp 4) = .int .i64 (b:Int))(h5:a0.eval (.tmp 5) = .int .i64 (nn:Int))
  (Q:Exit→Act→World→Prop) (hQ:∀(f:Nat→Value) (W':World),(fun W=>ProgOk lo g n cap W∧W.heap[FB]? = w0.heap[FB]?∧W.heap[R0]? = w0.heap[R0]?∧Below C w0 W∧Cur W C) W'→Q .normal (putL a0 (List.range' 133 18) f) W') :
  wpAny Tryz.prog .any ops_drawArms Q 19 (Array.replicate 19 false) a0 w0:=by
 obtain⟨fv,fb⟩:=fb
 obtain⟨rc,rv,rb⟩:=rb
 have hFw:FB<w0.heap.size:=(Array.getElem?_eq_some_iff.1 fb).1
 have hRw:R0<w0.heap.size:=(Array.getElem?_eq_some_iff.1 rb).1
 have hfb:∀w,Cur w C∧Fr C w0 w→w.cell? ⟨FB,0,none⟩=some (.slice (some ⟨g,0,none⟩) n cap)∧w.cell? ⟨FB,1,none⟩=some (.int .i64 vals):=fun w hS=>⟨(hS.2.cell (x:=⟨FB,0,none⟩) hFw hFC).trans (by simp[World.cell?,fb]),(hS.2.cell (x:=⟨FB,1,none⟩) hFw hFC).trans (by simp[World.cell?,fb])⟩
 obtain⟨g0,cap0,e0,hlog,hgw,hgG,hgc,hgf⟩:=gs.at hx
 cases e0
 have hgC:g≠C:=by have:=D.hC;omega
 have hty:∀k c z,w0.heap[k]? = some (.cells c 26 z)→k≠g:=fun k c z hk e=>by
  obtain⟨c2,hc2⟩:=ownsRow_typed gs.row g rfl
  rw[e,hc2] at hk
  cases hk
 have hDS:∀w,Cur w C∧Fr C w0 w→DSt w C lo G B∧GenSt w C lo G (.slice (some ⟨g,0,none⟩) B.length cap) B vals:=fun w hS=>⟨D.draw hS.2 hS.1,gs.lo D.hG (KeepLo.fr hS.2 D.hC)⟩
 have hqw:∀w,Cur w C∧Fr C w0 w→∀j,j<6→∃u,w.cell? ⟨g,b*6+j,none⟩=some u∧w.frozen? ⟨g,b*6+j,none⟩=false:=fun w hS j hj=>by
  have h6:x.cells[j]? = some (x.cells[j]'(by simpa [Bk.cells] using hj)):=List.getElem?_eq_getElem _
  exact⟨_,(hS.2.cell (x:=⟨g,b*6+j,none⟩) hgw hgC).trans (hgc j _ hj h6),(hS.2.frozen (x:=⟨g,b*6+j,none⟩) hgw hgC).trans (hgf _)⟩
 have hpbw:pb<w0.heap.size:=ownsRow_lt hpo pb rfl
 have hpbl:lo≤pb:=(World.ownsRow.lt hpo pb rfl).1
 have hpbC:pb≠C:=by have:=D.hC;omega
 have hpvw:∀w,Cur w C∧Fr C w0 w→w.cell? ⟨g,b*6,none⟩=some (.slice (some ⟨pb,0,none⟩) pn pcap):=fun w hS=>(hS.2.cell (x:=⟨g,b*6,none⟩) hgw hgC).trans (hgc 0 _ (by omega) (by rw[←hpvx];rfl))
 have hpow:∀w,Cur w C∧Fr C w0 w→w.ownsRow lo 74 2 (.slice (some ⟨pb,0,none⟩) pn pcap) pn pxs:=fun w hS=>ownsRow_lo hpo (KeepLo.fr hS.2 D.hC)
 have hav:∀w,Cur w C∧Fr C w0 w→w.cell? ⟨pb,1,none⟩=some av:=fun w hS=>by
  obtain⟨a,c,e,_,hc⟩:=ownsRow_cells (hpow w hS)
  obtain⟨g2,e2,hc2⟩:=hc hpn
  cases e
  cases e2
  rw[hc2 1 (by omega)]
  exact hpa
 have hal:∀w,Cur w C∧Fr C w0 w→ArmRow1 w lo av al:=fun w hS=>hal0.lo (KeepLo.fr hS.2 D.hC)
 refine wpAny_inv (N:=18) (s0:=133) (a0:=a0) (S:=fun w=>Cur w C∧Fr C w0 w) (R:=Fr C) (T:=TT_drawArms C lo FB R0 g n cap b nn pb pn pcap av vals w0) (Post:=fun W=>ProgOk lo g n cap W∧W.heap[FB]? = w0.heap[FB]?∧W.heap[R0]? = w0.heap[R0]?∧Below C w0 W∧Cur W C)
  rfl (by omega) ops_drawArms_acyc ops_drawArms_plain ops_drawArms_all (TT_drawArms_stab C lo FB R0 g n cap b nn pb pn pcap av vals w0 D.hC) ?hop ?hlast ?hQ 19 _ a0 w0 (by simp) ⟨by simp,fun j o ho hj=>?cl,rfl,rfl,fun _ _=>rfl,.inl ⟨by simp,⟨D.cur,Fr.refl _ _⟩,fun j hj hjl=>?nt⟩⟩
 case cl=>
  have:(Array.replicate 19 false).getD j false=false:=by simp[Array.getD]
  rw[this] at hj
  cases hj
 case nt=>
  have:(Array.replicate 19 false).getD j false=false:=by simp[Array.getD]
  rw[this] at hjl
  cases hjl
 case hQ=>
  intro a w e1 e2 e3 hP
  rw[act_fill e1 e2 e3]
  exact hQ _ w hP
 case hlast=>
  intro o ho a w es eo hS hT K hK
  obtain⟨_,rfl⟩:=Array.getElem?_eq_some_iff.1 ho
  have ev:∀t:Nat,t<133→a.eval (.tmp t)=a0.eval (.tmp t):=fun t ht=>by
   show a.tmps.getD t undef=a0.tmps.getD t undef
   rw[Array.getD_eq_getD_getElem?,Array.getD_eq_getD_getElem?,eo t (.inl ht)]
  obtain⟨a2,k2,c2,d0,ha2⟩:=hT 15 (by omega)
  have d1:=hT 17 (by omega)
  obtain⟨dw,gw⟩:=hDS w hS
  obtain⟨r,hpr,hft⟩:=gw.setArms hBn hx hpvx hpnx hpn ha2
  refine wp_skip_of (run_storeOp rfl d1 d0 (run_store_arms (hav w hS) r _ _ _)) (hK _ ⟨hpr,?_,?_,?_,hS.1.below D.hC ((Below.refl lo w).setCell (p:=⟨pb,1,none⟩) hpbl _)⟩)
  ·exact(Below.heap_setCell _ _ _ FB (fun e=>hft FB _ _ ((hS.2.block FB hFw hFC).trans fb) e)).trans (hS.2.block FB hFw hFC)
  ·exact(Below.heap_setCell _ _ _ R0 (fun e=>hft R0 _ _ ((hS.2.block R0 hRw hRC).trans rb) e)).trans (hS.2.block R0 hRw hRC)
  ·exact(hS.2.belowAt (Nat.le_of_lt D.cur.lt)).trans ((Below.refl C w).setCell (p:=⟨pb,1,none⟩) (by show C≤pb;have:=D.hC;omega) _)
 case hop=>
  intro j hj o ho a w es eo hS hT K hK
  have ev:∀t:Nat,t<133→a.eval (.tmp t)=a0.eval (.tmp t):=fun t ht=>by
   show a.tmps.getD t undef=a0.tmps.getD t undef
   rw[Array.getD_eq_getD_getElem?,Array.getD_eq_getD_getElem?,eo t (.inl ht)]
  have hj':j=0∨j=1∨j=2∨j=3∨j=4∨j=5∨j=6∨j=7∨j=8∨j=9∨j=10∨j=11∨j=12∨j=13∨j=14∨j=15∨j=16∨j=17:=by omega
  rcases hj' with rfl | rfl | rfl | rfl | rfl | rfl | rfl | rfl | rfl | rfl | rfl | rfl | rfl | rfl | rfl | rfl | rfl | rfl
  ·obtain⟨_,rfl⟩:=Array.getElem?_eq_some_iff.1 ho
   exact wp_field rfl ((ev 3 (by omega)).trans h3) (run_field_fn0 FB 0 w) (hK _ _ (Fr.refl C w) hS rfl)
  ·obtain⟨_,rfl⟩:=Array.getElem?_eq_some_iff.1 ho
   have d0:=hT 0 (by omega) (by kernel_rfl)
   exact wp_load rfl d0 (run_load_blocks0 (hfb w hS).1) (hK _ _ (Fr.refl C w) hS rfl)
  ·obtain⟨_,rfl⟩:=Array.getElem?_eq_some_iff.1 ho
   exact wp_move rfl ((ev 4 (by omega)).trans h4) (hK _ _ (Fr.refl C w) hS rfl)
  ·obtain⟨_,rfl⟩:=Array.getElem?_eq_some_iff.1 ho
   have d0:=hT 1 (by omega) (by kernel_rfl)
   have d1:=hT 2 (by omega) (by kernel_rfl)
   exact wp_index rfl d0 d1 (run_index_block hb w) (hK _ _ (Fr.refl C w) hS rfl)
  ·obtain⟨_,rfl⟩:=Array.getElem?_eq_some_iff.1 ho
   have d0:=hT 3 (by omega) (by kernel_rfl)
   exact wp_field rfl d0 (run_field_block0 g (b*6) w) (hK _ _ (Fr.refl C w) hS rfl)
  ·obtain⟨_,rfl⟩:=Array.getElem?_eq_some_iff.1 ho
   have d0:=hT 4 (by omega) (by kernel_rfl)
   exact wp_load rfl d0 (run_load_phis (hpvw w hS)) (hK _ _ (Fr.refl C w) hS rfl)
  ·obtain⟨_,rfl⟩:=Array.getElem?_eq_some_iff.1 ho
   exact wp_field rfl ((ev 3 (by omega)).trans h3) (run_field_fn0 FB 0 w) (hK _ _ (Fr.refl C w) hS rfl)
  ·obtain⟨_,rfl⟩:=Array.getElem?_eq_some_iff.1 ho
   have d0:=hT 6 (by omega) (by kernel_rfl)
   exact wp_load rfl d0 (run_load_blocks0 (hfb w hS).1) (hK _ _ (Fr.refl C w) hS rfl)
  ·obtain⟨_,rfl⟩:=Array.getElem?_eq_some_iff.1 ho
   exact wp_move rfl ((ev 4 (by omega)).trans h4) (hK _ _ (Fr.refl C w) hS rfl)
  ·obtain⟨_,rfl⟩:=Array.getElem?_eq_some_iff.1 ho
   have d0:=hT 7 (by omega) (by kernel_rfl)
   have d1:=hT 8 (by omega) (by kernel_rfl)
   exact wp_index rfl d0 d1 (run_index_block hb w) (hK _ _ (Fr.refl C w) hS rfl)
  ·obtain⟨_,rfl⟩:=Array.getElem?_eq_some_iff.1 ho
   have d0:=hT 9 (by omega) (by kernel_rfl)
   exact wp_field rfl d0 (run_field_block0 g (b*6) w) (hK _ _ (Fr.refl C w) hS rfl)
  ·obtain⟨_,rfl⟩:=Array.getElem?_eq_some_iff.1 ho
   have d0:=hT 10 (by omega) (by kernel_rfl)
   exact wp_load rfl d0 (run_load_phis (hpvw w hS)) (hK _ _ (Fr.refl C w) hS rfl)
  ·obtain⟨_,rfl⟩:=Array.getElem?_eq_some_iff.1 ho
   have d0:=hT 11 (by omega) (by kernel_rfl)
   exact wp_index rfl d0 rfl (run_index_phi0 hpn w) (hK _ _ (Fr.refl C w) hS rfl)
  ·obtain⟨_,rfl⟩:=Array.getElem?_eq_some_iff.1 ho
   have d0:=hT 12 (by omega) (by kernel_rfl)
   exact wp_field rfl d0 (run_field_phi1 pb w) (hK _ _ (Fr.refl C w) hS rfl)
  ·obtain⟨_,rfl⟩:=Array.getElem?_eq_some_iff.1 ho
   have d0:=hT 13 (by omega) (by kernel_rfl)
   exact wp_load rfl d0 (run_load_arms (hav w hS)) (hK _ _ (Fr.refl C w) hS rfl)
  ·obtain⟨_,rfl⟩:=Array.getElem?_eq_some_iff.1 ho
   have d0:=hT 14 (by omega) (by kernel_rfl)
   obtain⟨a2,k2,c2,hs2,ha2⟩:=arms_tail (hal w hS)
   exact wp_value_of (run_sliceTail rfl d0 hs2) (hK _ _ (Fr.refl C w) hS ⟨a2,k2,c2,rfl,ha2⟩)
  ·obtain⟨_,rfl⟩:=Array.getElem?_eq_some_iff.1 ho
   have d0:=hT 5 (by omega) (by kernel_rfl)
   exact wp_index rfl d0 rfl (run_index_phi0 hpn w) (hK _ _ (Fr.refl C w) hS rfl)
  ·obtain⟨_,rfl⟩:=Array.getElem?_eq_some_iff.1 ho
   have d0:=hT 16 (by omega) (by kernel_rfl)
   exact wp_field rfl d0 (run_field_phi1 pb w) (hK _ _ (Fr.refl C w) hS rfl)
theorem PhiRowW.other {w w':World}{row:Option Nat}{lo:Nat}{v:Value}{n:Nat}(h:PhiRowW w lo v n)(hg:w.grownBy w' row)(ho:Other w row 74)(ha:Other w row 146):PhiRowW w' lo v n:=by
 obtain⟨xs,h1,h2⟩:=h
 refine⟨xs,ownsRow_other h1 hg ho,fun i hi=>?_⟩
 obtain⟨d,av,al,e1,e2,e3⟩:=h2 i hi
 exact⟨d,av,al,e1,e2,e3.other hg ha⟩
theorem GenBut.prog {w:World}{C lo G g cap n:Nat}{bs:List Bk}{vals:Int}{i:Nat}(h:GenBut i w C lo G (.slice (some ⟨g,0,none⟩) bs.length cap) bs vals){j:Nat}{b b':Bk}{u:Value}(hb:bs[i]? = some b)(hj:j<6)(hc:b'.cells=b.cells.set j u)
  (hi:InsRow w lo b'.lv b'.ln) (hp:PhiRowW w lo b'.pv b'.pn) (hn:bs.length=n):ProgOk lo g n cap (w.setCell ⟨g,i*6+j,none⟩ u):=by
 have st:=World.ownsRow.stored h.row (i*6+j) u
 have oB:∀{e:TypeId},44≠e→Other w (some g) e:=fun he=>by
  have:=Other.of h.row he
  simpa [Value.ownBlock] using this
 have hil:i<bs.length:=(List.getElem?_eq_some_iff.1 hb).1
 have hb1:∀m y,(bs.set i b')[m]? = some y→(m=i∧y=b')∨(m≠i∧bs[m]? = some y):=fun m y hy=>by
  by_cases e:m=i
  ·subst e
   rw[List.getElem?_set_self hil] at hy
   cases hy
   exact .inl ⟨rfl,rfl⟩
  ·rw[List.getElem?_set_ne (fun h=>e h.symm)] at hy
   exact .inr ⟨e,hy⟩
 refine⟨bs.set i b',by rw[List.length_set];exact hn,?_,fun m y hy=>?_,fun m y hy=>?_⟩
 ·rw[←hn,←bkCells_set bs i j b b' u hb hj hc]
  exact st.1
 ·rcases hb1 m y hy with ⟨rfl,rfl⟩ | ⟨hm,hy⟩
  ·exact hi.other st.2 (oB (by decide))
  ·exact(h.ins m y hm hy).other st.2 (oB (by decide))
 ·rcases hb1 m y hy with ⟨rfl,rfl⟩ | ⟨hm,hy⟩
  ·exact hp.other st.2 (oB (by decide)) (oB (by decide))
  ·exact(h.phi m y hm hy).weak.other st.2 (oB (by decide)) (oB (by decide))
theorem yields_build1 {P:Program}{ops:Array Oper}{S:World→Prop}{o:Oper}{a:Act}{v:Value}{x:Operand}{t:TypeId}(hg:o.guard=none)(ho:o.op = .build t #[(0,x)]){p:Value}(hx:a.eval x=p)(hl:∀W,(Instr.build t #[(0,p)]).run P W = .ok v W):YieldsIf P ops S o v a :=
 .inl ⟨by simp[Region.wanted,hg],fun W _=>by simp[execOp,ho,hx,hl W]⟩
theorem run_build_phi0 (x:Int)(W:World):(Instr.build 74 #[(0,.int .i64 x)]).run Tryz.prog W = .ok (.agg #[.int .i64 x,.slice none 0 0]) W:=by kernel_rfl
def SomeInt (w:World)(e:Ending)(w':World):Prop := ∃z:Int,e = .returned (.int .i64 z)∧w'=w
theorem max_any (x y:Int)(w:World):Calls Tryz.prog 85 #[.int .i64 x,.int .i64 y] w fun e w'=>SomeInt w e w':=by
 by_cases h:y<x
 ·go_enter Tryz.func85,Tryz.ntmps85
  go_wp2
  go_ret
  exact⟨_,rfl,rfl⟩
 ·go_enter Tryz.func85,Tryz.ntmps85
  go_wp2
  go_ret
  exact⟨_,rfl,rfl⟩
def ops_drawPhi : Array Oper := #[⟨some 153,.fieldAddr 26 (.tmp 3) 0,0,"l02_fn.go:315",#[],none⟩,⟨some 154,.load 24 (.tmp 153),24,"l02_fn.go:315",#[⟨0,.data⟩],none⟩,⟨some 155,.move (.tmp 4),3,"l02_fn.go:315",#[],none⟩,⟨some 156,.fieldAddr 26 (.tmp 3) 0,0,"l02_fn.go:315",#[],none⟩,⟨some 157,.load 24 (.tmp 156),24,"l02_fn.go:315",#[⟨3,.data⟩],none⟩,⟨some 158,.move (.tmp 4),3,"l02_fn.go:315",#[],none⟩,⟨some 159,.indexAddr 24 (.tmp 157) (.tmp 158),0,"l02_fn.go:315",#[⟨4,.data⟩,⟨5,.data⟩],none⟩,⟨some 160,.fieldAddr 44 (.tmp 159) 0,0,"l02_fn.go:315",#[⟨6,.data⟩],none⟩,⟨some 161,.load 39 (.tmp 160),39,"l02_fn.go:315",#[⟨7,.data⟩],none⟩,⟨some 162,.move (.tmp 0),66,"l02_fn.go:315",#[],none⟩,⟨some 163,.fieldAddr 26 (.tmp 3) 1,0,"l02_fn.go:315",#[],none⟩,⟨some 164,.load 3 (.tmp 163),3,"l02_fn.go:315",#[⟨10,.data⟩],none⟩,⟨some 165,.call ⟨.value (.func 85),#[.tmp 164,.const (.int .i64 1)],#[3,3]⟩,3,"l02_fn.go:315",#[⟨11,.data⟩],none⟩,⟨some 166,.call ⟨.value (.func 83),#[.tmp 162,.tmp 165],#[66,3]⟩,3,"l02_fn.go:315",#[⟨9,.data⟩,⟨12,.data⟩,⟨12,.chain⟩],none⟩,⟨some 167,.build 74 #[(0,.tmp 166)],74,"l02_fn.go:315",#[⟨13,.data⟩],none⟩,⟨some 168,.buildSlice 39 1 #[(0,.tmp 167)],39,"l02_fn.go:315",#[⟨14,.data⟩],none⟩,⟨some 169,.call ⟨.builtin .append,#[.tmp 161,.tmp 168],#[39,39]⟩,39,"l02_fn.go:315",#[⟨8,.data⟩,⟨15,.data⟩,⟨13,.chain⟩],none⟩,⟨some 170,.indexAddr 24 (.tmp 154) (.tmp 155),0,"l02_fn.go:315",#[⟨1,.data⟩,⟨2,.data⟩,⟨0,.phase⟩,⟨1,.phase⟩,⟨2,.phase⟩,⟨3,.phase⟩,⟨4,.phase⟩,⟨5,.phase⟩,⟨6,.phase⟩,⟨7,.phase⟩,⟨8,.phase⟩,⟨9,.phase⟩,⟨10,.phase⟩,⟨11,.phase⟩,⟨12,.phase⟩,⟨13,.phase⟩,⟨14,.phase⟩,⟨15,.phase⟩,⟨16,.phase⟩],none⟩,⟨some 171,.fieldAddr 44 (.tmp 170) 0,0,"l02_fn.go:315",#[⟨17,.data⟩,⟨0,.phase⟩,⟨1,.phase⟩,⟨2,.phase⟩,⟨3,.phase⟩,⟨4,.phase⟩,⟨5,.phase⟩,⟨6,.phase⟩,⟨7,.phase⟩,⟨8,.phase⟩,⟨9,.phase⟩,⟨10,.phase⟩,⟨11,.phase⟩,⟨12,.phase⟩,⟨13,.phase⟩,⟨14,.phase⟩,⟨15,.phase⟩,⟨16,.phase⟩],none⟩,⟨none,.store 39 (.tmp 171) (.tmp 169),0,"l02_fn.go:315",#[⟨18,.data⟩,⟨16,.data⟩,⟨16,.chain⟩,⟨0,.phase⟩,⟨1,.phase⟩,⟨2,.phase⟩,⟨3,.phase⟩,⟨4,.phase⟩,⟨5,.phase⟩,⟨6,.phase⟩,⟨7,.phase⟩,⟨8,.phase⟩,⟨9,.phase⟩,⟨10,.phase⟩,⟨11,.phase⟩,⟨12,.phase⟩,⟨13,.phase⟩,⟨14,.phase⟩,⟨15,.phase⟩,⟨16,.phase⟩],none⟩]
set_option maxRecDepth 100000 in
set_option maxHeartbeats 16000000 in
theorem drawPhi (C lo FB R0 g n cap b pn lcap:Nat)(la:Option Addr)(vals:Int)(w:World)(G:Nat)(B:List Bk)(x:Bk)(D:DSt w C lo G B)(gs:GenSt w C lo G (.slice (some ⟨g,0,none⟩) B.length cap) B vals)(hBn:B.length=n)(hb:b<n)(hx:B[b]? = some x)(fb:∃fv,w.heap[FB]? = some (.cells #[.slice (some ⟨g,0,none⟩) n cap,.int .i64 vals] 26 fv))(hFC:FB≠C)(rb:∃c fv,w.heap[R0]? = some (.cells c 26 fv))(hRC:R0≠C)(hpv:x.pv = .slice la pn lcap)(hpn:x.pn=pn)
  (a:Act) (hsz:a.tmps.size=173) (h0:a.eval (.tmp 0) = .pointer (some ⟨C,0,none⟩)) (h3:a.eval (.tmp 3) = .pointer (some ⟨FB,0,none⟩)) (h4:a.eval (.tmp 4) = .int .i64 (b:Int))
  (Q:Exit→Act→World→Prop) (hQp:∀c a w,¬Q (.panic c) a w)
  (hQ:∀(z8 z9:Int) (Ph v':Value) (W':World),(ProgOk lo g n cap W'∧W'.heap[FB]? = w.heap[FB]?∧W'.heap[R0]? = w.heap[R0]?∧Below C w W'∧Cur W' C)→Q .normal (((((((((((((((((((a.put (some 153) (.pointer (some ⟨FB,0,none⟩))).put (some 154) (.slice (some ⟨g,0,none⟩) n cap)).put (some 155) (.int .i64 (b:Int))).put (some 156) (.pointer (some ⟨FB,0,none⟩))).put (some 157) (.slice (some ⟨g,0,none⟩) n cap)).put (some 158) (.int .i64 (b:Int))).put (some 159) (.pointer (some ⟨g,b*6,none⟩))).put (some 160) (.pointer (some ⟨g,b*6,none⟩))).put (some 161) (.slice la pn lcap)).put (some 162) (.pointer (some ⟨C,0,none⟩))).put (some 163) (.pointer (some ⟨FB,1,none⟩))).put (some 164) (.int .i64 vals)).put (some 165) (.int .i64 z8)).put (some 166) (.int .i64 z9)).put (some 167) (.agg #[.int .i64 z9,.slice none 0 0])).put (some 168) (Ph)).put (some 169) (v')).put (some 170) (.pointer (some ⟨g,b*6,none⟩))).put (some 171) (.pointer (some ⟨g,b*6,none⟩))) W') :
  wpAnyM Tryz.prog .any ops_drawPhi Q 19 (fun W=>W.cell? ⟨FB,0,none⟩=some (.slice (some ⟨g,0,none⟩) n cap)∧W.cell? ⟨FB,1,none⟩=some (.int .i64 vals)∧W.cell? ⟨g,b*6,none⟩=some (.slice la pn lcap)) 20 (Array.replicate 20 false) a w:=by
 have hp:∀(o:Option Tmp) (v:Value) c a w,Q (.panic c) (a.put o v) w→Q (.panic c) a w:=fun o v c a w h=>absurd h (hQp _ _ _)
 obtain⟨fv,fb⟩:=fb
 obtain⟨rc,rv,rb⟩:=rb
 have hFw:FB<w.heap.size:=(Array.getElem?_eq_some_iff.1 fb).1
 have hRw:R0<w.heap.size:=(Array.getElem?_eq_some_iff.1 rb).1
 obtain⟨g0,cap0,e0,hlog,hgw,hgG,hgc,hgf⟩:=gs.at hx
 cases e0
 have hgC:g≠C:=by have:=D.hC;omega
 have hty:∀k c z,w.heap[k]? = some (.cells c 26 z)→k≠g:=fun k c z hk e=>by
  obtain⟨c2,hc2⟩:=ownsRow_typed gs.row g rfl
  rw[e,hc2] at hk
  cases hk
 have hS:w.cell? ⟨FB,0,none⟩=some (.slice (some ⟨g,0,none⟩) n cap)∧w.cell? ⟨FB,1,none⟩=some (.int .i64 vals)∧w.cell? ⟨g,b*6,none⟩=some (.slice la pn lcap):=⟨by simp[World.cell?,fb],by simp[World.cell?,fb],hgc 0 _ (by omega) (by rw[←hpv];rfl)⟩
 refine wpAnyM_take (i:=0) (v := .pointer (some ⟨FB,0,none⟩)) rfl (by kernel_rfl) (by kernel_rfl) (by kernel_rfl) (by kernel_rfl) (hp _ _) (yields_field rfl rfl h3 (run_field_fn0 FB 0)) hS ?_
 obtain⟨a1,e1⟩:∃x,a.put ops_drawPhi[0].dst (.pointer (some ⟨FB,0,none⟩))=x:=⟨_,rfl⟩
 have z1:a1.tmps.size=173:=by rw[←e1];exact put_size.trans hsz
 have g1_0:a1.eval (.tmp 0) = .pointer (some ⟨C,0,none⟩):=by rw[←e1];exact(put_ne (by decide)).trans h0
 have g1_3:a1.eval (.tmp 3) = .pointer (some ⟨FB,0,none⟩):=by rw[←e1];exact(put_ne (by decide)).trans h3
 have g1_4:a1.eval (.tmp 4) = .int .i64 (b:Int):=by rw[←e1];exact(put_ne (by decide)).trans h4
 have g1_153:a1.eval (.tmp 153) = .pointer (some ⟨FB,0,none⟩):=by rw[←e1];exact put_eq (by rw[hsz];decide)
 rw[e1]
 have E1:Hid (a1=a.put (some 153) (.pointer (some ⟨FB,0,none⟩))):=e1.symm
 clear e1 hsz h0 h3 h4
 refine wpAnyM_take (i:=1) (v := .slice (some ⟨g,0,none⟩) n cap) rfl (by kernel_rfl) (by kernel_rfl) (by kernel_rfl) (by kernel_rfl) (hp _ _) (yields_load rfl rfl g1_153 (fun W hW=>run_load_blocks0 hW.1)) hS ?_
 obtain⟨a2,e2⟩:∃x,a1.put ops_drawPhi[1].dst (.slice (some ⟨g,0,none⟩) n cap)=x:=⟨_,rfl⟩
 have z2:a2.tmps.size=173:=by rw[←e2];exact put_size.trans z1
 have g2_0:a2.eval (.tmp 0) = .pointer (some ⟨C,0,none⟩):=by rw[←e2];exact(put_ne (by decide)).trans g1_0
 have g2_3:a2.eval (.tmp 3) = .pointer (some ⟨FB,0,none⟩):=by rw[←e2];exact(put_ne (by decide)).trans g1_3
 have g2_4:a2.eval (.tmp 4) = .int .i64 (b:Int):=by rw[←e2];exact(put_ne (by decide)).trans g1_4
 have g2_153:a2.eval (.tmp 153) = .pointer (some ⟨FB,0,none⟩):=by rw[←e2];exact(put_ne (by decide)).trans g1_153
 have g2_154:a2.eval (.tmp 154) = .slice (some ⟨g,0,none⟩) n cap:=by rw[←e2];exact put_eq (by rw[z1];decide)
 rw[e2]
 have E2:Hid (a2=a1.put (some 154) (.slice (some ⟨g,0,none⟩) n cap)):=e2.symm
 clear e2 z1 g1_0 g1_3 g1_4 g1_153
 clear g2_153
 refine wpAnyM_take (i:=2) (v := .int .i64 (b:Int)) rfl (by kernel_rfl) (by kernel_rfl) (by kernel_rfl) (by kernel_rfl) (hp _ _) (yields_move rfl rfl g2_4) hS ?_
 obtain⟨a3,e3⟩:∃x,a2.put ops_drawPhi[2].dst (.int .i64 (b:Int))=x:=⟨_,rfl⟩
 have z3:a3.tmps.size=173:=by rw[←e3];exact put_size.trans z2
 have g3_0:a3.eval (.tmp 0) = .pointer (some ⟨C,0,none⟩):=by rw[←e3];exact(put_ne (by decide)).trans g2_0
 have g3_3:a3.eval (.tmp 3) = .pointer (some ⟨FB,0,none⟩):=by rw[←e3];exact(put_ne (by decide)).trans g2_3
 have g3_4:a3.eval (.tmp 4) = .int .i64 (b:Int):=by rw[←e3];exact(put_ne (by decide)).trans g2_4
 have g3_154:a3.eval (.tmp 154) = .slice (some ⟨g,0,none⟩) n cap:=by rw[←e3];exact(put_ne (by decide)).trans g2_154
 have g3_155:a3.eval (.tmp 155) = .int .i64 (b:Int):=by rw[←e3];exact put_eq (by rw[z2];decide)
 rw[e3]
 have E3:Hid (a3=a2.put (some 155) (.int .i64 (b:Int))):=e3.symm
 clear e3 z2 g2_0 g2_3 g2_4 g2_154
 refine wpAnyM_take (i:=3) (v := .pointer (some ⟨FB,0,none⟩)) rfl (by kernel_rfl) (by kernel_rfl) (by kernel_rfl) (by kernel_rfl) (hp _ _) (yields_field rfl rfl g3_3 (run_field_fn0 FB 0)) hS ?_
 obtain⟨a4,e4⟩:∃x,a3.put ops_drawPhi[3].dst (.pointer (some ⟨FB,0,none⟩))=x:=⟨_,rfl⟩
 have z4:a4.tmps.size=173:=by rw[←e4];exact put_size.trans z3
 have g4_0:a4.eval (.tmp 0) = .pointer (some ⟨C,0,none⟩):=by rw[←e4];exact(put_ne (by decide)).trans g3_0
 have g4_3:a4.eval (.tmp 3) = .pointer (some ⟨FB,0,none⟩):=by rw[←e4];exact(put_ne (by decide)).trans g3_3
 have g4_4:a4.eval (.tmp 4) = .int .i64 (b:Int):=by rw[←e4];exact(put_ne (by decide)).trans g3_4
 have g4_154:a4.eval (.tmp 154) = .slice (some ⟨g,0,none⟩) n cap:=by rw[←e4];exact(put_ne (by decide)).trans g3_154
 have g4_155:a4.eval (.tmp 155) = .int .i64 (b:Int):=by rw[←e4];exact(put_ne (by decide)).trans g3_155
 have g4_156:a4.eval (.tmp 156) = .pointer (some ⟨FB,0,none⟩):=by rw[←e4];exact put_eq (by rw[z3];decide)
 rw[e4]
 have E4:Hid (a4=a3.put (some 156) (.pointer (some ⟨FB,0,none⟩))):=e4.symm
 clear e4 z3 g3_0 g3_3 g3_4 g3_154 g3_155
 refine wpAnyM_take (i:=4) (v := .slice (some ⟨g,0,none⟩) n cap) rfl (by kernel_rfl) (by kernel_rfl) (by kernel_rfl) (by kernel_rfl) (hp _ _) (yields_load rfl rfl g4_156 (fun W hW=>run_load_blocks0 hW.1)) hS ?_
 obtain⟨a5,e5⟩:∃x,a4.put ops_drawPhi[4].dst (.slice (some ⟨g,0,none⟩) n cap)=x:=⟨_,rfl⟩
 have z5:a5.tmps.size=173:=by rw[←e5];exact put_size.trans z4
 have g5_0:a5.eval (.tmp 0) = .pointer (some ⟨C,0,none⟩):=by rw[←e5];exact(put_ne (by decide)).trans g4_0
 have g5_3:a5.eval (.tmp 3) = .pointer (some ⟨FB,0,none⟩):=by rw[←e5];exact(put_ne (by decide)).trans g4_3
 have g5_4:a5.eval (.tmp 4) = .int .i64 (b:Int):=by rw[←e5];exact(put_ne (by decide)).trans g4_4
 have g5_154:a5.eval (.tmp 154) = .slice (some ⟨g,0,none⟩) n cap:=by rw[←e5];exact(put_ne (by decide)).trans g4_154
 have g5_155:a5.eval (.tmp 155) = .int .i64 (b:Int):=by rw[←e5];exact(put_ne (by decide)).trans g4_155
 have g5_156:a5.eval (.tmp 156) = .pointer (some ⟨FB,0,none⟩):=by rw[←e5];exact(put_ne (by decide)).trans g4_156
 have g5_157:a5.eval (.tmp 157) = .slice (some ⟨g,0,none⟩) n cap:=by rw[←e5];exact put_eq (by rw[z4];decide)
 rw[e5]
 have E5:Hid (a5=a4.put (some 157) (.slice (some ⟨g,0,none⟩) n cap)):=e5.symm
 clear e5 z4 g4_0 g4_3 g4_4 g4_154 g4_155 g4_156
 clear g5_156
 refine wpAnyM_take (i:=5) (v := .int .i64 (b:Int)) rfl (by kernel_rfl) (by kernel_rfl) (by kernel_rfl) (by kernel_rfl) (hp _ _) (yields_move rfl rfl g5_4) hS ?_
 obtain⟨a6,e6⟩:∃x,a5.put ops_drawPhi[5].dst (.int .i64 (b:Int))=x:=⟨_,rfl⟩
 have z6:a6.tmps.size=173:=by rw[←e6];exact put_size.trans z5
 have g6_0:a6.eval (.tmp 0) = .pointer (some ⟨C,0,none⟩):=by rw[←e6];exact(put_ne (by decide)).trans g5_0
 have g6_3:a6.eval (.tmp 3) = .pointer (some ⟨FB,0,none⟩):=by rw[←e6];exact(put_ne (by decide)).trans g5_3
 have g6_4:a6.eval (.tmp 4) = .int .i64 (b:Int):=by rw[←e6];exact(put_ne (by decide)).trans g5_4
 have g6_154:a6.eval (.tmp 154) = .slice (some ⟨g,0,none⟩) n cap:=by rw[←e6];exact(put_ne (by decide)).trans g5_154
 have g6_155:a6.eval (.tmp 155) = .int .i64 (b:Int):=by rw[←e6];exact(put_ne (by decide)).trans g5_155
 have g6_157:a6.eval (.tmp 157) = .slice (some ⟨g,0,none⟩) n cap:=by rw[←e6];exact(put_ne (by decide)).trans g5_157
 have g6_158:a6.eval (.tmp 158) = .int .i64 (b:Int):=by rw[←e6];exact put_eq (by rw[z5];decide)
 rw[e6]
 have E6:Hid (a6=a5.put (some 158) (.int .i64 (b:Int))):=e6.symm
 clear e6 z5 g5_0 g5_3 g5_4 g5_154 g5_155 g5_157
 clear g6_4
 refine wpAnyM_take (i:=6) (v := .pointer (some ⟨g,b*6,none⟩)) rfl (by kernel_rfl) (by kernel_rfl) (by kernel_rfl) (by kernel_rfl) (hp _ _) (yields_index rfl rfl g6_157 g6_158 (fun W _=>run_index_block hb W)) hS ?_
 obtain⟨a7,e7⟩:∃x,a6.put ops_drawPhi[6].dst (.pointer (some ⟨g,b*6,none⟩))=x:=⟨_,rfl⟩
 have z7:a7.tmps.size=173:=by rw[←e7];exact put_size.trans z6
 have g7_0:a7.eval (.tmp 0) = .pointer (some ⟨C,0,none⟩):=by rw[←e7];exact(put_ne (by decide)).trans g6_0
 have g7_3:a7.eval (.tmp 3) = .pointer (some ⟨FB,0,none⟩):=by rw[←e7];exact(put_ne (by decide)).trans g6_3
 have g7_154:a7.eval (.tmp 154) = .slice (some ⟨g,0,none⟩) n cap:=by rw[←e7];exact(put_ne (by decide)).trans g6_154
 have g7_155:a7.eval (.tmp 155) = .int .i64 (b:Int):=by rw[←e7];exact(put_ne (by decide)).trans g6_155
 have g7_157:a7.eval (.tmp 157) = .slice (some ⟨g,0,none⟩) n cap:=by rw[←e7];exact(put_ne (by decide)).trans g6_157
 have g7_158:a7.eval (.tmp 158) = .int .i64 (b:Int):=by rw[←e7];exact(put_ne (by decide)).trans g6_158
 have g7_159:a7.eval (.tmp 159) = .pointer (some ⟨g,b*6,none⟩):=by rw[←e7];exact put_eq (by rw[z6];decide)
 rw[e7]
 have E7:Hid (a7=a6.put (some 159) (.pointer (some ⟨g,b*6,none⟩))):=e7.symm
 clear e7 z6 g6_0 g6_3 g6_154 g6_155 g6_157 g6_158
 clear g7_157 g7_158
 refine wpAnyM_take (i:=7) (v := .pointer (some ⟨g,b*6,none⟩)) rfl (by kernel_rfl) (by kernel_rfl) (by kernel_rfl) (by kernel_rfl) (hp _ _) (yields_field rfl rfl g7_159 (run_field_block0 g (b*6))) hS ?_
 obtain⟨a8,e8⟩:∃x,a7.put ops_drawPhi[7].dst (.pointer (some ⟨g,b*6,none⟩))=x:=⟨_,rfl⟩
 have z8:a8.tmps.size=173:=by rw[←e8];exact put_size.trans z7
 have g8_0:a8.eval (.tmp 0) = .pointer (some ⟨C,0,none⟩):=by rw[←e8];exact(put_ne (by decide)).trans g7_0
 have g8_3:a8.eval (.tmp 3) = .pointer (some ⟨FB,0,none⟩):=by rw[←e8];exact(put_ne (by decide)).trans g7_3
 have g8_154:a8.eval (.tmp 154) = .slice (some ⟨g,0,none⟩) n cap:=by rw[←e8];exact(put_ne (by decide)).trans g7_154
 have g8_155:a8.eval (.tmp 155) = .int .i64 (b:Int):=by rw[←e8];exact(put_ne (by decide)).trans g7_155
 have g8_159:a8.eval (.tmp 159) = .pointer (some ⟨g,b*6,none⟩):=by rw[←e8];exact(put_ne (by decide)).trans g7_159
 have g8_160:a8.eval (.tmp 160) = .pointer (some ⟨g,b*6,none⟩):=by rw[←e8];exact put_eq (by rw[z7];decide)
 rw[e8]
 have E8:Hid (a8=a7.put (some 160) (.pointer (some ⟨g,b*6,none⟩))):=e8.symm
 clear e8 z7 g7_0 g7_3 g7_154 g7_155 g7_159
 clear g8_159
 refine wpAnyM_take (i:=8) (v := .slice la pn lcap) rfl (by kernel_rfl) (by kernel_rfl) (by kernel_rfl) (by kernel_rfl) (hp _ _) (yields_load rfl rfl g8_160 (fun W hW=>run_load_phis hW.2.2)) hS ?_
 obtain⟨a9,e9⟩:∃x,a8.put ops_drawPhi[8].dst (.slice la pn lcap)=x:=⟨_,rfl⟩
 have z9:a9.tmps.size=173:=by rw[←e9];exact put_size.trans z8
 have g9_0:a9.eval (.tmp 0) = .pointer (some ⟨C,0,none⟩):=by rw[←e9];exact(put_ne (by decide)).trans g8_0
 have g9_3:a9.eval (.tmp 3) = .pointer (some ⟨FB,0,none⟩):=by rw[←e9];exact(put_ne (by decide)).trans g8_3
 have g9_154:a9.eval (.tmp 154) = .slice (some ⟨g,0,none⟩) n cap:=by rw[←e9];exact(put_ne (by decide)).trans g8_154
 have g9_155:a9.eval (.tmp 155) = .int .i64 (b:Int):=by rw[←e9];exact(put_ne (by decide)).trans g8_155
 have g9_160:a9.eval (.tmp 160) = .pointer (some ⟨g,b*6,none⟩):=by rw[←e9];exact(put_ne (by decide)).trans g8_160
 have g9_161:a9.eval (.tmp 161) = .slice la pn lcap:=by rw[←e9];exact put_eq (by rw[z8];decide)
 rw[e9]
 have E9:Hid (a9=a8.put (some 161) (.slice la pn lcap)):=e9.symm
 clear e9 z8 g8_0 g8_3 g8_154 g8_155 g8_160
 clear g9_160
 refine wpAnyM_take (i:=9) (v := .pointer (some ⟨C,0,none⟩)) rfl (by kernel_rfl) (by kernel_rfl) (by kernel_rfl) (by kernel_rfl) (hp _ _) (yields_move rfl rfl g9_0) hS ?_
 obtain⟨a10,e10⟩:∃x,a9.put ops_drawPhi[9].dst (.pointer (some ⟨C,0,none⟩))=x:=⟨_,rfl⟩
 have z10:a10.tmps.size=173:=by rw[←e10];exact put_size.trans z9
 have g10_0:a10.eval (.tmp 0) = .pointer (some ⟨C,0,none⟩):=by rw[←e10];exact(put_ne (by decide)).trans g9_0
 have g10_3:a10.eval (.tmp 3) = .pointer (some ⟨FB,0,none⟩):=by rw[←e10];exact(put_ne (by decide)).trans g9_3
 have g10_154:a10.eval (.tmp 154) = .slice (some ⟨g,0,none⟩) n cap:=by rw[←e10];exact(put_ne (by decide)).trans g9_154
 have g10_155:a10.eval (.tmp 155) = .int .i64 (b:Int):=by rw[←e10];exact(put_ne (by decide)).trans g9_155
 have g10_161:a10.eval (.tmp 161) = .slice la pn lcap:=by rw[←e10];exact(put_ne (by decide)).trans g9_161
 have g10_162:a10.eval (.tmp 162) = .pointer (some ⟨C,0,none⟩):=by rw[←e10];exact put_eq (by rw[z9];decide)
 rw[e10]
 have E10:Hid (a10=a9.put (some 162) (.pointer (some ⟨C,0,none⟩))):=e10.symm
 clear e10 z9 g9_0 g9_3 g9_154 g9_155 g9_161
 clear g10_0
 refine wpAnyM_take (i:=10) (v := .pointer (some ⟨FB,1,none⟩)) rfl (by kernel_rfl) (by kernel_rfl) (by kernel_rfl) (by kernel_rfl) (hp _ _) (yields_field rfl rfl g10_3 (run_field_fn1 FB)) hS ?_
 obtain⟨a11,e11⟩:∃x,a10.put ops_drawPhi[10].dst (.pointer (some ⟨FB,1,none⟩))=x:=⟨_,rfl⟩
 have z11:a11.tmps.size=173:=by rw[←e11];exact put_size.trans z10
 have g11_3:a11.eval (.tmp 3) = .pointer (some ⟨FB,0,none⟩):=by rw[←e11];exact(put_ne (by decide)).trans g10_3
 have g11_154:a11.eval (.tmp 154) = .slice (some ⟨g,0,none⟩) n cap:=by rw[←e11];exact(put_ne (by decide)).trans g10_154
 have g11_155:a11.eval (.tmp 155) = .int .i64 (b:Int):=by rw[←e11];exact(put_ne (by decide)).trans g10_155
 have g11_161:a11.eval (.tmp 161) = .slice la pn lcap:=by rw[←e11];exact(put_ne (by decide)).trans g10_161
 have g11_162:a11.eval (.tmp 162) = .pointer (some ⟨C,0,none⟩):=by rw[←e11];exact(put_ne (by decide)).trans g10_162
 have g11_163:a11.eval (.tmp 163) = .pointer (some ⟨FB,1,none⟩):=by rw[←e11];exact put_eq (by rw[z10];decide)
 rw[e11]
 have E11:Hid (a11=a10.put (some 163) (.pointer (some ⟨FB,1,none⟩))):=e11.symm
 clear e11 z10 g10_3 g10_154 g10_155 g10_161 g10_162
 clear g11_3
 refine wpAnyM_take (i:=11) (v := .int .i64 vals) rfl (by kernel_rfl) (by kernel_rfl) (by kernel_rfl) (by kernel_rfl) (hp _ _) (yields_load rfl rfl g11_163 (fun W hW=>run_load_int1 hW.2.1)) hS ?_
 obtain⟨a12,e12⟩:∃x,a11.put ops_drawPhi[11].dst (.int .i64 vals)=x:=⟨_,rfl⟩
 have z12:a12.tmps.size=173:=by rw[←e12];exact put_size.trans z11
 have g12_154:a12.eval (.tmp 154) = .slice (some ⟨g,0,none⟩) n cap:=by rw[←e12];exact(put_ne (by decide)).trans g11_154
 have g12_155:a12.eval (.tmp 155) = .int .i64 (b:Int):=by rw[←e12];exact(put_ne (by decide)).trans g11_155
 have g12_161:a12.eval (.tmp 161) = .slice la pn lcap:=by rw[←e12];exact(put_ne (by decide)).trans g11_161
 have g12_162:a12.eval (.tmp 162) = .pointer (some ⟨C,0,none⟩):=by rw[←e12];exact(put_ne (by decide)).trans g11_162
 have g12_163:a12.eval (.tmp 163) = .pointer (some ⟨FB,1,none⟩):=by rw[←e12];exact(put_ne (by decide)).trans g11_163
 have g12_164:a12.eval (.tmp 164) = .int .i64 vals:=by rw[←e12];exact put_eq (by rw[z11];decide)
 rw[e12]
 have E12:Hid (a12=a11.put (some 164) (.int .i64 vals)):=e12.symm
 clear e12 z11 g11_154 g11_155 g11_161 g11_162 g11_163
 clear g12_163
 refine wpAnyM_one (i:=12) rfl rfl (by kernel_rfl) ?_
 refine wp_call_of (f:=85) (args := #[.int .i64 vals,.int .i64 1]) (runCall2 (y := .const (.int .i64 1)) rfl g12_164 rfl (enters_of Tryz.func85 (by kernel_rfl) rfl) _) (max_any vals 1 w) ?_
 rintro e w8 ⟨z8,rfl,hw8⟩
 have hw8':w=w8:=hw8.symm
 subst hw8'
 refine⟨_,rfl,fun _=>hS,?_⟩
 obtain⟨a13,e13⟩:∃x,a12.put ops_drawPhi[12].dst (.int .i64 z8)=x:=⟨_,rfl⟩
 have z13:a13.tmps.size=173:=by rw[←e13];exact put_size.trans z12
 have g13_154:a13.eval (.tmp 154) = .slice (some ⟨g,0,none⟩) n cap:=by rw[←e13];exact(put_ne (by decide)).trans g12_154
 have g13_155:a13.eval (.tmp 155) = .int .i64 (b:Int):=by rw[←e13];exact(put_ne (by decide)).trans g12_155
 have g13_161:a13.eval (.tmp 161) = .slice la pn lcap:=by rw[←e13];exact(put_ne (by decide)).trans g12_161
 have g13_162:a13.eval (.tmp 162) = .pointer (some ⟨C,0,none⟩):=by rw[←e13];exact(put_ne (by decide)).trans g12_162
 have g13_164:a13.eval (.tmp 164) = .int .i64 vals:=by rw[←e13];exact(put_ne (by decide)).trans g12_164
 have g13_165:a13.eval (.tmp 165) = .int .i64 z8:=by rw[←e13];exact put_eq (by rw[z12];decide)
 rw[e13]
 have E13:Hid (a13=a12.put (some 165) (.int .i64 z8)):=e13.symm
 clear e13 z12 g12_154 g12_155 g12_161 g12_162 g12_164
 clear g13_164
 refine wpAnyM_one (i:=13) rfl rfl (by kernel_rfl) ?_
 refine wp_call_of (f:=83) (args := #[.pointer (some ⟨C,0,none⟩),.int .i64 z8]) (runCall2 rfl g13_162 g13_165 (enters_of Tryz.func83 (by kernel_rfl) rfl) _) (below_any C z8 w D.cur) ?_
 rintro e w9 ⟨z9,rfl,_,_,_,f9,hc9⟩
 have D9:DSt w9 C lo G B:=D.draw f9 hc9
 have gs9:GenSt w9 C lo G (.slice (some ⟨g,0,none⟩) B.length cap) B vals:=gs.lo D.hG (KeepLo.fr f9 D.hC)
 have hS9:w9.cell? ⟨FB,0,none⟩=some (.slice (some ⟨g,0,none⟩) n cap)∧w9.cell? ⟨FB,1,none⟩=some (.int .i64 vals)∧w9.cell? ⟨g,b*6,none⟩=some (.slice la pn lcap):=⟨(f9.cell (x:=⟨FB,0,none⟩) hFw hFC).trans hS.1,(f9.cell (x:=⟨FB,1,none⟩) hFw hFC).trans hS.2.1,(f9.cell (x:=⟨g,b*6,none⟩) hgw hgC).trans hS.2.2⟩
 have hg9:g<w9.heap.size:=Nat.lt_of_lt_of_le hgw f9.size
 have hF9:FB<w9.heap.size:=Nat.lt_of_lt_of_le hFw f9.size
 have r9:w9.frozen? ⟨g,b*6,none⟩=false:=(f9.frozen (x:=⟨g,b*6,none⟩) hgw hgC).trans (hgf _)
 refine⟨_,rfl,fun _=>hS9,?_⟩
 obtain⟨a14,e14⟩:∃x,a13.put ops_drawPhi[13].dst (.int .i64 z9)=x:=⟨_,rfl⟩
 have z14:a14.tmps.size=173:=by rw[←e14];exact put_size.trans z13
 have g14_154:a14.eval (.tmp 154) = .slice (some ⟨g,0,none⟩) n cap:=by rw[←e14];exact(put_ne (by decide)).trans g13_154
 have g14_155:a14.eval (.tmp 155) = .int .i64 (b:Int):=by rw[←e14];exact(put_ne (by decide)).trans g13_155
 have g14_161:a14.eval (.tmp 161) = .slice la pn lcap:=by rw[←e14];exact(put_ne (by decide)).trans g13_161
 have g14_162:a14.eval (.tmp 162) = .pointer (some ⟨C,0,none⟩):=by rw[←e14];exact(put_ne (by decide)).trans g13_162
 have g14_165:a14.eval (.tmp 165) = .int .i64 z8:=by rw[←e14];exact(put_ne (by decide)).trans g13_165
 have g14_166:a14.eval (.tmp 166) = .int .i64 z9:=by rw[←e14];exact put_eq (by rw[z13];decide)
 rw[e14]
 have E14:Hid (a14=a13.put (some 166) (.int .i64 z9)):=e14.symm
 clear e14 z13 g13_154 g13_155 g13_161 g13_162 g13_165
 clear g14_162 g14_165
 refine wpAnyM_take (i:=14) (v := .agg #[.int .i64 z9,.slice none 0 0]) rfl (by kernel_rfl) (by kernel_rfl) (by kernel_rfl) (by kernel_rfl) (hp _ _) (yields_build1 rfl rfl g14_166 (run_build_phi0 z9)) hS9 ?_
 obtain⟨a15,e15⟩:∃x,a14.put ops_drawPhi[14].dst (.agg #[.int .i64 z9,.slice none 0 0])=x:=⟨_,rfl⟩
 have z15:a15.tmps.size=173:=by rw[←e15];exact put_size.trans z14
 have g15_154:a15.eval (.tmp 154) = .slice (some ⟨g,0,none⟩) n cap:=by rw[←e15];exact(put_ne (by decide)).trans g14_154
 have g15_155:a15.eval (.tmp 155) = .int .i64 (b:Int):=by rw[←e15];exact(put_ne (by decide)).trans g14_155
 have g15_161:a15.eval (.tmp 161) = .slice la pn lcap:=by rw[←e15];exact(put_ne (by decide)).trans g14_161
 have g15_166:a15.eval (.tmp 166) = .int .i64 z9:=by rw[←e15];exact(put_ne (by decide)).trans g14_166
 have g15_167:a15.eval (.tmp 167) = .agg #[.int .i64 z9,.slice none 0 0]:=by rw[←e15];exact put_eq (by rw[z14];decide)
 rw[e15]
 have E15:Hid (a15=a14.put (some 167) (.agg #[.int .i64 z9,.slice none 0 0])):=e15.symm
 clear e15 z14 g14_154 g14_155 g14_161 g14_166
 clear g15_166
 refine wpAnyM_one (i:=15) rfl rfl (by kernel_rfl) ?_
 have hr11:=run_phis1 z9 none 0 0 w9
 obtain⟨w11,hw11⟩:∃W,w9.alloc (.cells #[.int .i64 z9,.slice none 0 0] 74)=W:=⟨_,rfl⟩
 rw[hw11] at hr11
 refine wp_value_of (v := .slice (some ⟨w9.heap.size,0,none⟩) 1 1) (w':=w11) (run_sliceOp1 rfl g15_167 hr11) ?_
 have hS11:w11.cell? ⟨FB,0,none⟩=some (.slice (some ⟨g,0,none⟩) n cap)∧w11.cell? ⟨FB,1,none⟩=some (.int .i64 vals)∧w11.cell? ⟨g,b*6,none⟩=some (.slice la pn lcap):=by rw[←hw11];exact⟨cellAlloc2 _ hS9.1,cellAlloc2 _ hS9.2.1,cellAlloc2 _ hS9.2.2⟩
 have b11:Below w9.heap.size w9 w11:=by rw[←hw11];exact Bel.alloc _ _
 refine⟨fun _=>hS11,?_⟩
 obtain⟨a16,e16⟩:∃x,a15.put ops_drawPhi[15].dst (.slice (some ⟨w9.heap.size,0,none⟩) 1 1)=x:=⟨_,rfl⟩
 have z16:a16.tmps.size=173:=by rw[←e16];exact put_size.trans z15
 have g16_154:a16.eval (.tmp 154) = .slice (some ⟨g,0,none⟩) n cap:=by rw[←e16];exact(put_ne (by decide)).trans g15_154
 have g16_155:a16.eval (.tmp 155) = .int .i64 (b:Int):=by rw[←e16];exact(put_ne (by decide)).trans g15_155
 have g16_161:a16.eval (.tmp 161) = .slice la pn lcap:=by rw[←e16];exact(put_ne (by decide)).trans g15_161
 have g16_167:a16.eval (.tmp 167) = .agg #[.int .i64 z9,.slice none 0 0]:=by rw[←e16];exact(put_ne (by decide)).trans g15_167
 have g16_168:a16.eval (.tmp 168) = .slice (some ⟨w9.heap.size,0,none⟩) 1 1:=by rw[←e16];exact put_eq (by rw[z15];decide)
 rw[e16]
 have E16:Hid (a16=a15.put (some 168) (.slice (some ⟨w9.heap.size,0,none⟩) 1 1)):=e16.symm
 clear e16 z15 g15_154 g15_155 g15_161 g15_167
 clear g16_167
 obtain⟨xs,hxs,hxi,hn4⟩:=gs9.phi b x hx
 have hlow9:lo≤w9.heap.size:=by have h1:=D9.hG;have h2:=D9.box_lt;omega
 have gs11:GenSt w11 C lo G (.slice (some ⟨g,0,none⟩) B.length cap) B vals:=gs9.lo D.hG (KeepLo.later b11)
 have hxs11:w11.ownsRow lo 74 2 (.slice la pn lcap) pn xs:=by
  rw[←hw11,←hpv,←hpn]
  exact World.ownsRow.alloc hxs _
 obtain⟨i0,hi,hz0,hz1,hz2⟩:=info_parts info_phi
 have hmx:100≤maxLen:=by decide
 have hs11:w11.heap.size=w9.heap.size+1:=by rw[←hw11];simp
 refine wpAnyM_one (i:=16) rfl rfl (by kernel_rfl) ?_
 refine wp_append_at _ _ 39 rfl lo 74 i0 _ 2 32 Tryz.underlying39 hi hz0 hz1 hz2 rfl (by decide) (.slice la pn lcap) pn xs g16_161 hxs11 ⟨w9.heap.size,0,none⟩ 1 1 [.int .i64 z9,.slice none 0 0] g16_168 rfl ?news (by intro u hu;simp at hu;rcases hu with rfl | rfl <;> rfl) (by omega) (by omega) (by omega) ?_
 case news=>
  intro j u hj
  have e2:w11.heap[w9.heap.size]? = some (.cells #[.int .i64 z9,.slice none 0 0] 74 (0,0)):=by
   rw[←hw11]
   exact World.alloc_heap_new _ _
  have hj2:j=0∨j=1:=by
   have:=(List.getElem?_eq_some_iff.1 hj).1
   simp at this
   omega
  rcases hj2 with rfl | rfl <;> (simp at hj;subst hj;simp[World.cell?,addr_add,e2])
 intro v' wa hown' hgrow hat
 obtain⟨g',cap',rfl⟩:=ownsRow_succ hown'
 have hrow11:w11.ownsRow lo 74 2 x.pv x.pn xs:=by rw[hpv,hpn];exact hxs11
 have hgrow2:w11.grownBy wa x.pv.ownBlock:=by rw[hpv];exact hgrow
 obtain⟨hbut,hin⟩:=gs11.phiGrown hx hgrow2
 have hoa:Other w11 x.pv.ownBlock 146:=Other.of hrow11 (by decide)
 have keepT:∀(k:Nat) c t z,w11.heap[k]? = some (.cells c t z)→t≠74→wa.heap[k]? = some (.cells c t z):=fun k c t z hk ht=>(hgrow2.block k (Array.getElem?_eq_some_iff.1 hk).1 (fun e=>by
  obtain⟨c2,hc2⟩:=ownsRow_typed hrow11 k e.symm
  rw[hk] at hc2
  cases hc2
  exact ht rfl)).trans hk
 obtain⟨gc,hgc2⟩:=ownsRow_typed gs11.row g rfl
 have hga:=keepT g _ _ _ hgc2 (by decide)
 have egg:wa.heap[g]? = w11.heap[g]?:=hga.trans hgc2.symm
 have fb11:w11.heap[FB]? = some (.cells #[.slice (some ⟨g,0,none⟩) n cap,.int .i64 vals] 26 fv):=(b11.block FB hF9).trans ((f9.block FB hFw hFC).trans fb)
 have rb11:w11.heap[R0]? = some (.cells rc 26 rv):=(b11.block R0 (Nat.lt_of_lt_of_le hRw f9.size)).trans ((f9.block R0 hRw hRC).trans rb)
 have fba:=keepT FB _ _ _ fb11 (by decide)
 have rba:=keepT R0 _ _ _ rb11 (by decide)
 have qa:wa.cell? ⟨g,b*6,none⟩=some (.slice la pn lcap):=(World.cell?_of_block (w:=w11) (w':=wa) (a:=⟨g,b*6,none⟩) egg).trans hS11.2.2
 have ra:wa.frozen? ⟨g,b*6,none⟩=false:=by
  rw[World.frozen?_of_block (w:=w11) (w':=wa) (a:=⟨g,b*6,none⟩) egg,b11.frozen (p:=⟨g,b*6,none⟩) hg9]
  exact r9
 have hSa:wa.cell? ⟨FB,0,none⟩=some (.slice (some ⟨g,0,none⟩) n cap)∧wa.cell? ⟨FB,1,none⟩=some (.int .i64 vals)∧wa.cell? ⟨g,b*6,none⟩=some (.slice la pn lcap):=⟨by simp[World.cell?,fba],by simp[World.cell?,fba],qa⟩
 have hxl:xs.length=pn*2:=by have:=hxs11.1;exact this
 have hpw:PhiRowW wa lo (.slice (some ⟨g',0,none⟩) (pn+1) cap') (pn+1):=⟨_,hown',fun j hj=>by
  by_cases e:j<pn
  ·obtain⟨d',av',al',e1,e2,e3⟩:=hxi j (by rw[hpn];exact e)
   exact⟨d',av',al',(by rw[List.getElem?_append_left (by omega)];exact e1),(by rw[List.getElem?_append_left (by omega)];exact e2),(e3.1.lo (KeepLo.later b11)).other hgrow2 hoa⟩
  ·have e2:j=pn:=by omega
   subst e2
   exact⟨z9,.slice none 0 0,0,(by rw[List.getElem?_append_right (by omega)];simp[hxl]),(by rw[List.getElem?_append_right (by omega)];simp[hxl]),none,0,rfl,Nat.le_refl _,by omega,fun h=>absurd h (by omega)⟩⟩
 have hprog:=hbut.prog (n:=n) (j:=0) (b' := { x with pv := .slice (some ⟨g',0,none⟩) (pn+1) cap',pn:=pn+1 }) (u := .slice (some ⟨g',0,none⟩) (pn+1) cap') hx (by omega) rfl hin hpw hBn
 have belA:Below C w wa:=(f9.belowAt (Nat.le_of_lt D.cur.lt)).trans ((b11.mono (by have:=D9.cur.lt;omega)).trans ((Below.refl C w11).grown hgrow2 (by have:=D9.cur.lt;omega) (fun j hj=>by
  have h1:=(World.ownsRow.lt hrow11 j hj).1
  have h2:=D.hC
  omega)))
 refine⟨fun _=>hSa,?_⟩
 obtain⟨a17,e17⟩:∃x,a16.put ops_drawPhi[16].dst (.slice (some ⟨g',0,none⟩) (pn+1) cap')=x:=⟨_,rfl⟩
 have z17:a17.tmps.size=173:=by rw[←e17];exact put_size.trans z16
 have g17_154:a17.eval (.tmp 154) = .slice (some ⟨g,0,none⟩) n cap:=by rw[←e17];exact(put_ne (by decide)).trans g16_154
 have g17_155:a17.eval (.tmp 155) = .int .i64 (b:Int):=by rw[←e17];exact(put_ne (by decide)).trans g16_155
 have g17_161:a17.eval (.tmp 161) = .slice la pn lcap:=by rw[←e17];exact(put_ne (by decide)).trans g16_161
 have g17_168:a17.eval (.tmp 168) = .slice (some ⟨w9.heap.size,0,none⟩) 1 1:=by rw[←e17];exact(put_ne (by decide)).trans g16_168
 have g17_169:a17.eval (.tmp 169) = .slice (some ⟨g',0,none⟩) (pn+1) cap':=by rw[←e17];exact put_eq (by rw[z16];decide)
 rw[e17]
 have E17:Hid (a17=a16.put (some 169) (.slice (some ⟨g',0,none⟩) (pn+1) cap')):=e17.symm
 clear e17 z16 g16_154 g16_155 g16_161 g16_168
 clear g17_161 g17_168
 refine wpAnyM_one (i:=17) rfl rfl (by kernel_rfl) ?_
 refine wp_value_of (v := .pointer (some ⟨g,b*6,none⟩)) (w':=wa) (run_indexOp rfl g17_154 g17_155 (run_index_block hb wa)) ?_
 refine⟨fun _=>hSa,?_⟩
 obtain⟨a18,e18⟩:∃x,a17.put ops_drawPhi[17].dst (.pointer (some ⟨g,b*6,none⟩))=x:=⟨_,rfl⟩
 have z18:a18.tmps.size=173:=by rw[←e18];exact put_size.trans z17
 have g18_154:a18.eval (.tmp 154) = .slice (some ⟨g,0,none⟩) n cap:=by rw[←e18];exact(put_ne (by decide)).trans g17_154
 have g18_155:a18.eval (.tmp 155) = .int .i64 (b:Int):=by rw[←e18];exact(put_ne (by decide)).trans g17_155
 have g18_169:a18.eval (.tmp 169) = .slice (some ⟨g',0,none⟩) (pn+1) cap':=by rw[←e18];exact(put_ne (by decide)).trans g17_169
 have g18_170:a18.eval (.tmp 170) = .pointer (some ⟨g,b*6,none⟩):=by rw[←e18];exact put_eq (by rw[z17];decide)
 rw[e18]
 have E18:Hid (a18=a17.put (some 170) (.pointer (some ⟨g,b*6,none⟩))):=e18.symm
 clear e18 z17 g17_154 g17_155 g17_169
 clear g18_154 g18_155
 refine wpAnyM_one (i:=18) rfl rfl (by kernel_rfl) ?_
 refine wp_value_of (v := .pointer (some ⟨g,b*6,none⟩)) (w':=wa) (run_fieldOp rfl g18_170 (run_field_block0 g (b*6) wa)) ?_
 refine⟨fun _=>hSa,?_⟩
 obtain⟨a19,e19⟩:∃x,a18.put ops_drawPhi[18].dst (.pointer (some ⟨g,b*6,none⟩))=x:=⟨_,rfl⟩
 have z19:a19.tmps.size=173:=by rw[←e19];exact put_size.trans z18
 have g19_169:a19.eval (.tmp 169) = .slice (some ⟨g',0,none⟩) (pn+1) cap':=by rw[←e19];exact(put_ne (by decide)).trans g18_169
 have g19_170:a19.eval (.tmp 170) = .pointer (some ⟨g,b*6,none⟩):=by rw[←e19];exact(put_ne (by decide)).trans g18_170
 have g19_171:a19.eval (.tmp 171) = .pointer (some ⟨g,b*6,none⟩):=by rw[←e19];exact put_eq (by rw[z18];decide)
 rw[e19]
 have E19:Hid (a19=a18.put (some 171) (.pointer (some ⟨g,b*6,none⟩))):=e19.symm
 clear e19 z18 g18_169 g18_170
 clear g19_170
 refine wpAnyM_one (i:=19) rfl rfl (by kernel_rfl) ?_
 refine wp_skip_of (w':=wa.setCell ⟨g,b*6,none⟩ (.slice (some ⟨g',0,none⟩) (pn+1) cap')) (run_storeOp rfl g19_171 g19_169 (run_store_phis qa ra _ _ _)) ?_
 refine⟨fun h=>absurd rfl h,wpAnyM_done (by kernel_rfl) ?_ _⟩
 have hcur:Cur (wa.setCell ⟨g,b*6,none⟩ (.slice (some ⟨g',0,none⟩) (pn+1) cap')) C:=hc9.below D.hC (((b11.mono hlow9).trans ((Below.refl lo w11).grown hgrow2 (by omega) (fun j hj=>(World.ownsRow.lt hrow11 j hj).1))).setCell (p:=⟨g,b*6,none⟩) hlog _)
 have hne:∀k c z,w.heap[k]? = some (.cells c 26 z)→k≠g:=hty
 have hfin:=hQ z8 z9 (.slice (some ⟨w9.heap.size,0,none⟩) 1 1) (.slice (some ⟨g',0,none⟩) (pn+1) cap') (wa.setCell ⟨g,b*6,none⟩ (.slice (some ⟨g',0,none⟩) (pn+1) cap')) ⟨hprog,(Below.heap_setCell _ _ _ FB (hty FB _ _ fb)).trans (fba.trans fb.symm),(Below.heap_setCell _ _ _ R0 (hty R0 _ _ rb)).trans (rba.trans rb.symm),belA.setCell (p:=⟨g,b*6,none⟩) (by show C≤g;have:=D.hC;omega) _,hcur⟩
 show Q .normal a19 _
 rw[E19.out,E18.out,E17.out,E16.out,E15.out,E14.out,E13.out,E12.out,E11.out,E10.out,E9.out,E8.out,E7.out,E6.out,E5.out,E4.out,E3.out,E2.out,E1.out]
 exact hfin
end Go.Proofs.YtfnilamkapabkaaGreatDoor
