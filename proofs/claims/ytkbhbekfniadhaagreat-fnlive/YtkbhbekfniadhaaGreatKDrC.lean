/- The draw: the end of the last block: a region that draws its order. The draw: a program that is well, in memory. What the draw has made reads as a program. The draw: regions that turn an end or a place of what was made. The draw: regions that turn the phis of what was made. The draw: a phi without arms is put behind the phis of a block. -/
import Derived.Test.YtkbhbekfniadhaaGreatTkK
import Derived.Test.YtkbhbekfniadhaaGreatTk0
import Derived.Test.YtkbhbekfniadhaaGreatKDrB
import Derived.Test.YtkbhbekfniadhaaGreatKDrA
import Derived.Test.YtkbhbekfniadhaaGreatKIns
set_option maxRecDepth 100000
set_option maxHeartbeats 16000000
namespace Go.Proofs.YtkbhbekfniadhaaGreat
open Go.ChangeShapes Go.WideShapes Go.ChangeAt Go.RowKit
set_option linter.unusedVariables false
theorem yM (G o:Nat)(W:World):(Instr.fieldAt 43 (.pointer (some (Z G o))) 2).run Tryz.prog W=.ok (.pointer (some (Z G (o+2)))) W:=by kernel_rfl
theorem abH {o:Oper}{a:Act}{x:Operand}{z:Int}(ho:o.op=.build 41 #[(0,.const (vi 3)),(1,x)])(hx:a.eval x=vi z)(w:World):(execOp a.eval o).run Tryz.prog w=.ok (.value (.agg #[vi 3,vi z,vi 0,vi 0])) w:=by
 have h:(Instr.build 41 #[(0,vi 3),(1,vi z)]).run Tryz.prog w=.ok (.agg #[vi 3,vi z,vi 0,vi 0]) w:=by kernel_rfl
 have h0:a.eval (.const (vi 3))=vi 3:=rfl;simp[execOp,ho,hx,h0,h]
theorem KW {w:World}{g j:Nat}{u2 u3 u4 u5:Value}(q2:w.cell? (Z g (j+2))=some u2)(q3:w.cell? (Z g (j+3))=some u3)(q4:w.cell? (Z g (j+4))=some u4)(q5:w.cell? (Z g (j+5))=some u5)
  (r2:w.frozen? (Z g (j+2))=false) (r3:w.frozen? (Z g (j+3))=false) (r4:w.frozen? (Z g (j+4))=false) (r5:w.frozen? (Z g (j+5))=false) (k a t e:Int) :
  (Instr.storeAt 41 (.pointer (some (Z g (j+2)))) (.agg #[vi k,vi a,vi t,vi e])).run Tryz.prog w=.ok () ((((w.setCell (Z g (j+2)) (vi k)).setCell (Z g (j+3)) (vi a)).setCell (Z g (j+4)) (vi t)).setCell (Z g (j+5)) (vi e)):=by
 simp[Instr.storeAt,Instr.sureAddr,go_sem,q2,q3,q4,q5,r2,r3,r4,r5]
noncomputable def jr:Array Oper:=rF Tryz.f84 6
def Ye (C lo G g n cap en:Nat)(KV:Value)(w0:World):List (Value→World→Prop) := [(fun v w=>v=.pointer (some (Z G 0))),(fun v w=>v=.pointer (some (Z G 0))),(fun v w=>v=.pointer (some (Z G 1))),(fun v w=>v=.pointer (some (Z G 1))),(fun v w=>v=sq g 0 n cap),(fun v w=>v=vi (en:Int)),(fun v w=>v=.pointer (some (Z G 0))),(fun v w=>v=KV),(fun v w=>∃z:Int,v=vi z),(fun v w=>∃z:Int,v=.agg #[vi 3,vi z,vi 0,vi 0]),(fun v w=>v=.pointer (some (Z g (en*6)))),(fun v w=>v=.pointer (some (Z g (en*6+2))))]
def zy (C lo G g n cap en:Nat)(KV:Value)(w0:World)(j:Nat)(v:Value)(w:World):Prop:=((Ye C lo G g n cap en KV w0).getD j (fun _ _=>True)) v w
theorem QI : ∀(i:Nat) (o:Oper),jr[i]?=some o→∀e∈o.after,e.on<i:=by
 have h:(List.range 13).all (fun i=>match jr[i]? with | some o=>o.after.all (fun e=>decide (e.on<i)) | none=>true)=true:=by kernel_rfl
 intro i o ho e he;have hi:i<13:=(aI ho).1;have:=List.all_eq_true.1 h i (List.mem_range.2 hi);rw[ho] at this;simp only[Array.all_eq_true'] at this;simpa using this e he
theorem Qj : ∀(i:Nat) (o:Oper),jr[i]?=some o→o.guard=none:=by
 have h:(List.range 13).all (fun i=>match jr[i]? with | some o=>o.guard.isNone | none=>true)=true:=by kernel_rfl
 intro i o ho;have hi:i<13:=(aI ho).1;have:=List.all_eq_true.1 h i (List.mem_range.2 hi);rw[ho] at this;simpa using this
theorem XF : ∀li:Array Bool,zD .any jr li→(∀o,jr[12]?=some o→∀e∈o.after,Region.binds .any e=true→li.getD e.on false=true)→∀j,j<12→li.getD j false=true:=by
 intro li hc hl;have hlast:∀i,jb .any jr 12 i=true→li.getD i false=true:=fun i hi=>by
  obtain⟨e,he,hb,h2⟩:=jD hi (Array.getElem?_eq_getElem (by decide:12<jr.size));rw[←h2];exact hl _ (Array.getElem?_eq_getElem (by decide:12<jr.size)) e he hb
 have r:∀j i,j<12→li.getD j false=true→jb .any jr j i=true→li.getD i false=true:=fun j i hj H hi=>by
  have G:j<jr.size:=by show j<13;omega
  obtain⟨e,he,hb,h2⟩:=jD hi (Array.getElem?_eq_getElem G);rw[←h2];exact hc j _ (Array.getElem?_eq_getElem G) H e he hb
 have B:∀i,i<12→(jb .any jr 12 i=true∨(∃k,k<12∧jb .any jr 12 k=true∧jb .any jr k i=true)∨∃k m,k<12∧m<12∧jb .any jr 12 m=true∧jb .any jr m k=true∧jb .any jr k i=true):=by
  have t:(List.range 12).all (fun i=>jb .any jr 12 i || (List.range 12).any (fun k=>jb .any jr 12 k && jb .any jr k i) || (List.range 12).any (fun k=>(List.range 12).any (fun m=>jb .any jr 12 m && (jb .any jr m k && jb .any jr k i))))=true:=by kernel_rfl
  intro i hi;have:=List.all_eq_true.1 t i (List.mem_range.2 hi);simp only[Bool.or_eq_true,List.any_eq_true,List.mem_range,Bool.and_eq_true] at this;rcases this with (h | ⟨k,hk,h1,h2⟩) | ⟨k,hk,m,hm,h1,h2,h3⟩
  ·exact .inl h
  ·exact .inr (.inl ⟨k,hk,h1,h2⟩)
  ·exact .inr (.inr ⟨k,m,hk,hm,h1,h2,h3⟩)
 intro j hj;rcases B j hj with h | ⟨k,hk,h1,h2⟩ | ⟨k,m,hk,hm,h1,h2,h3⟩
 ·exact hlast j h
 ·exact r k j hk (hlast k h1) h2
 ·exact r k j hk (r m k hm (hlast m h1) h2) h3
theorem XG (C lo G g n cap en:Nat)(KV:Value)(w0:World)(hC:C<lo):∀j v w w',zy C lo G g n cap en KV w0 j v w→Fr C w w'→zy C lo G g n cap en KV w0 j v w':=by
 intro j v w w' h hf;have hk:=ju.fr hf hC;by_cases hj:j<12
 ·have r:j=0∨j=1∨j=2∨j=3∨j=4∨j=5∨j=6∨j=7∨j=8∨j=9∨j=10∨j=11:=by omega
  rcases r with rfl|rfl|rfl|rfl|rfl|rfl|rfl|rfl|rfl|rfl|rfl|rfl
  ·exact h
  ·exact h
  ·exact h
  ·exact h
  ·exact h
  ·exact h
  ·exact h
  ·exact h
  ·obtain⟨z,h1⟩:=h;exact⟨z,h1⟩
  ·obtain⟨z,h1⟩:=h;exact⟨z,h1⟩
  ·exact h
  ·exact h
 ·unfold zy at h ⊢;have hlen:(Ye C lo G g n cap en KV w0).length=12:=rfl;rw[List.getD_eq_getElem?_getD,List.getElem?_eq_none (by omega)]
  trivial
theorem agX (C lo G g n cap en:Nat)(KV:Value)(w0:World)(B:List Bk)(l:List Int)(x:Bk)(vals:Int)(D:DSt w0 C lo G B)(hBn:B.length=n)(hen:en<n)(hx:B[en]?=some x)(gs:jE w0 C lo G (sq g 0 B.length cap) B vals)(ka:ja w0 lo KV l)(hl:0<l.length∧l.length≤1000)(hgw:g<w0.heap.size)(hgC:g≠C)(hGC:G≠C)(q:∀j,2≤j→j<6→∃u,w0.cell? (Z g (en*6+j))=some u)(r:∀j,w0.frozen? (Z g j)=false)(a0:Act)(hsz:a0.tmps.size=44)(h3:a0.eval (.tmp 3)=.pointer (some (Z G 0)))(h6:a0.eval (.tmp 6)=vi (en:Int))(h7:a0.eval (.tmp 7)=KV)
  (Q:Exit→Act→World→Prop) (hQ:∀(f:Nat→Value) (W':World),(fun W=>∃B':List Bk,B'.length=B.length∧DSt W C lo G B'∧FrD C lo G w0 W∧jE W C lo G (sq g 0 B'.length cap) B' vals) W'→Q .normal (aaa a0 (List.range' 28 12) f) W') :
  wpAny Tryz.prog .any jr Q 13 (Array.replicate 13 false) a0 w0:=by
 have M:G<w0.heap.size:=D.xx;have O:∀w,Cur w C∧Fr C w0 w→w.cell? (Z G 1)=some (sq g 0 n cap):=fun w hS=>by
  have h:=gs.cells.2.1;rw[hBn] at h;exact(hS.2.cell (x:=(Z G 1)) M hGC).trans h
 have H:∀w,Cur w C∧Fr C w0 w→DSt w C lo G B:=fun w hS=>D.draw hS.2 hS.1
 refine yJ (N:=12) (s0:=28) (a0:=a0) (S:=fun w=>Cur w C∧Fr C w0 w) (R:=Fr C) (T:=zy C lo G g n cap en KV w0) (Post:=fun W=>∃B':List Bk,B'.length=B.length∧DSt W C lo G B'∧FrD C lo G w0 W∧jE W C lo G (sq g 0 B'.length cap) B' vals)
  rfl (by omega) QI Qj XF (XG C lo G g n cap en KV w0 D.hC) ?hop ?hlast ?hQ 13 _ a0 w0 (by simp) ⟨by simp,fun j o ho hj=>?cl,rfl,rfl,fun _ _=>rfl,.inl ⟨by simp,⟨D.cur,Fr.refl _ _⟩,fun j hj I=>?nt⟩⟩
 case cl=>
  have:(Array.replicate 13 false).getD j false=false:=by simp[Array.getD]
  rw[this] at hj;cases hj
 case nt=>
  have:(Array.replicate 13 false).getD j false=false:=by simp[Array.getD]
  rw[this] at I;cases I
 case hQ=>
  intro a w e1 e2 e3 hP;rw[zF e1 e2 e3];exact hQ _ w hP
 case hlast=>
  intro o ho a w es eo hS hT K hK;obtain⟨_,rfl⟩:=aI ho;have ev:∀t:Nat,t<28→a.eval (.tmp t)=a0.eval (.tmp t):=fun t ht=>by
   show a.tmps.getD t undef=a0.tmps.getD t undef;rw[Array.getD_eq_getD_getElem?,Array.getD_eq_getD_getElem?,eo t (.inl ht)]
  obtain⟨z,d0⟩:=hT 9 (by omega);have d1:=hT 11 (by omega);have gw:jE w C lo G (sq g 0 B.length cap) B vals:=gs.lo D.hG (ju.fr hS.2 D.hC);have hq:∀j,2≤j→j<6→∃u,w.cell? (Z g (en*6+j))=some u:=fun j h2 h6=>by
   obtain⟨u,hu⟩:=q j h2 h6;exact⟨u,(hS.2.cell (x:=(Z g (en*6+j))) hgw hgC).trans hu⟩
  have hr:∀j,w.frozen? (Z g j)=false:=fun j=>(hS.2.frozen (x:=(Z g j)) hgw hgC).trans (r j)
  obtain⟨u2,q2⟩:=hq 2 (by omega) (by omega);obtain⟨u3,q3⟩:=hq 3 (by omega) (by omega);obtain⟨u4,q4⟩:=hq 4 (by omega) (by omega);obtain⟨u5,q5⟩:=hq 5 (by omega) (by omega);have J:=(H w hS).xH gw hx 3 z 0 0;have L:=gw.xH hx 3 z 0 0;refine qF (kV rfl d1 d0 (KW q2 q3 q4 q5 (hr _) (hr _) (hr _) (hr _) _ _ _ _)) (hK _ ⟨_,List.length_set,J.1,(FrD.fr hS.2 D.hC D.cur.lt).trans J.2,?_⟩);rw[List.length_set];exact L
 case hop=>
  intro j hj o ho a w es eo hS hT K hK;have ev:∀t:Nat,t<28→a.eval (.tmp t)=a0.eval (.tmp t):=fun t ht=>by
   show a.tmps.getD t undef=a0.tmps.getD t undef;rw[Array.getD_eq_getD_getElem?,Array.getD_eq_getD_getElem?,eo t (.inl ht)]
  have U:j=0∨j=1∨j=2∨j=3∨j=4∨j=5∨j=6∨j=7∨j=8∨j=9∨j=10∨j=11:=by omega
  rcases U with rfl|rfl|rfl|rfl|rfl|rfl|rfl|rfl|rfl|rfl|rfl|rfl
  ·obtain⟨_,rfl⟩:=aI ho;exact wp_move rfl ((ev 3 (by omega)).trans h3) (hK _ _ (Fr.refl C w) hS rfl)
  ·obtain⟨_,rfl⟩:=aI ho;have d0:=hT 0 (by omega) (by kernel_rfl);exact agN rfl d0 (hK _ _ (Fr.refl C w) hS rfl)
  ·obtain⟨_,rfl⟩:=aI ho;have d0:=hT 1 (by omega) (by kernel_rfl);exact jQ rfl d0 (yG G w) (hK _ _ (Fr.refl C w) hS rfl)
  ·obtain⟨_,rfl⟩:=aI ho;have d0:=hT 2 (by omega) (by kernel_rfl);exact jQ rfl d0 (jR G 1 w) (hK _ _ (Fr.refl C w) hS rfl)
  ·obtain⟨_,rfl⟩:=aI ho;have d0:=hT 3 (by omega) (by kernel_rfl);exact qm rfl d0 (ye (O w hS)) (hK _ _ (Fr.refl C w) hS rfl)
  ·obtain⟨_,rfl⟩:=aI ho;exact wp_move rfl ((ev 6 (by omega)).trans h6) (hK _ _ (Fr.refl C w) hS rfl)
  ·obtain⟨_,rfl⟩:=aI ho;exact wp_move rfl ((ev 3 (by omega)).trans h3) (hK _ _ (Fr.refl C w) hS rfl)
  ·obtain⟨_,rfl⟩:=aI ho;exact wp_move rfl ((ev 7 (by omega)).trans h7) (hK _ _ (Fr.refl C w) hS rfl)
  ·obtain⟨_,rfl⟩:=aI ho;have d0:=hT 6 (by omega) (by kernel_rfl);have d1:=hT 7 (by omega) (by kernel_rfl);refine jx (f:=107) (args := #[.pointer (some (Z G 0)),KV]) (kY rfl d0 d1 (enters_of Tryz.func107 (by kernel_rfl) rfl) _) (kG C lo G B KV l w (H w hS) (jq ka (ju.fr hS.2 D.hC)) hl.1 hl.2) ?_;rintro e w1 ⟨z,rfl,dd,hf⟩;exact⟨_,rfl,hK _ _ hf ⟨dd.cur,hS.2.trans hf⟩ ⟨z,rfl⟩⟩
  ·obtain⟨_,rfl⟩:=aI ho;obtain⟨z,d1⟩:=hT 8 (by omega) (by kernel_rfl);exact jt (abH rfl d1 w) (hK _ _ (Fr.refl C w) hS ⟨z,rfl⟩)
  ·obtain⟨_,rfl⟩:=aI ho;have d0:=hT 4 (by omega) (by kernel_rfl);have d1:=hT 5 (by omega) (by kernel_rfl);exact qK rfl d0 d1 (jN hen w) (hK _ _ (Fr.refl C w) hS rfl)
  ·obtain⟨_,rfl⟩:=aI ho;have d0:=hT 10 (by omega) (by kernel_rfl);exact jQ rfl d0 (yM g (en*6) w) (hK _ _ (Fr.refl C w) hS rfl)
theorem jE.aside {w w':World}{C lo G r:Nat}{bv:Value}{bs:List Bk}{vals:Int}(h:jE w C lo G bv bs vals)(hg:w.grownBy w' (some r)){c:Array Value}{t:TypeId}{z:Nat × Nat}(hr:w.heap[r]?=some (.cells c t z))(h1:t≠43)(h2:t≠47)(h3:t≠107)(h4:t≠143)(hne:G≠r):jE w' C lo G bv bs vals:=by
 have o:∀{e:TypeId},t≠e→qQ w (some r) e:=fun he r' B=>by cases B;exact⟨_,_,_,hr,he⟩
 exact⟨(hg.block G (aI h.box).1 (fun e=>hne (by cases e;rfl))).trans h.box,j8 h.row hg (o h1),fun i b hb=>(h.ins i b hb).other hg (o h2),fun i b hb=>(h.phi i b hb).other hg (o h3) (o h4),h.apL,h.apP⟩
theorem Zp (W:World)(g i j:Nat)(u v:Value):W.grownBy ((W.setCell (Z g i) u).setCell (Z g j) v) (some g) :=
 ⟨rfl,rfl,rfl,by simp[World.setCell],fun k _ hk=>by
  have h:k≠g:=fun e=>hk (by rw[e])
  rw[Below.heap_setCell _ _ _ k h,Below.heap_setCell _ _ _ k h]⟩
def afA (C:Nat)(w:World)(e:Ending)(w':World):Prop :=
 ∃(G g cap:Nat) (bs:List Bk) (vals:Int),e=.returned (.agg #[sq g 0 bs.length cap,vi vals])∧0<bs.length∧bs.length≤900∧DSt w' C (C+1) G bs∧jE w' C (C+1) G (sq g 0 bs.length cap) bs vals∧Below C w w'∧w.heap.size≤w'.heap.size∧∀k c z,C<k→w.heap[k]?=some (.cells c 26 z)→w'.heap[k]?=some (.cells c 26 z)
theorem Zq (C:Nat)(w:World)(hc:Cur w C):Calls Tryz.prog 84 #[.pointer (some (Z C 0))] w fun e w'=>afA C w e w':=by
 have HC:Hid (Cur w C):=hc;have ai:C<w.heap.size:=hc.lt;obtain⟨R,hR⟩:∃x,w.heap.size=x:=⟨_,rfl⟩;have ab:Hid (w.heap.size=R):=hR;obtain⟨lo,hlo0⟩:∃x,x=C+1:=⟨_,rfl⟩;have U:Hid (lo=C+1):=hlo0;have ah:C<lo:=by omega
 have r:lo≤R:=by omega
 clear hc hR hlo0;go_enter Tryz.func84,Tryz.ntmps84
 go_wp2_with fail
 have af:=ab.out;obtain⟨w1,hw1⟩:∃W,(w.alloc (.cells #[.slice none 0 0,vi 0] 26)).alloc (.cells #[.pointer (some (Z C 0)),.slice none 0 0,vi 0] 152)=W:=⟨_,rfl⟩;have b1:Below w.heap.size w w1:=by rw[←hw1];repeat (first | exact Below.refl _ _ | apply Below.drew | refine Below.alloc ?_ (by simp <;> omega) _ | refine Below.setCell ?_ (by simp <;> omega) _)
 have X1:Hid (w1.heap[w.heap.size]?=some (.cells #[.slice none 0 0,vi 0] 26 (0,0))):=by
  rw[←hw1];exact(Below.heap_alloc _ _ _ (by simp)).trans (World.alloc_heap_new _ _)
 have D1:Hid (DSt w1 C lo (w.heap.size+1) []):=by
  refine⟨by omega,by omega,HC.out.later b1,.slice none 0 0,0,?_,World.ownsRow_nil _ _ _ _,fun i b hb=>by simp at hb,fun i b hb=>by simp at hb,fun i j x y _ hx=>by simp at hx,fun i j x y _ hx=>by simp at hx⟩;rw[←hw1];have h:=World.alloc_heap_new (w.alloc (.cells #[.slice none 0 0,vi 0] 26)) (.cells #[.pointer (some (Z C 0)),.slice none 0 0,vi 0] 152);rw[World.size_alloc] at h;exact h
 have F1:Hid (Below C w w1):=b1.mono (by omega);have ac:Hid (Below w.heap.size w w1):=b1;rw[hw1];clear hw1 b1;obtain⟨G,hG⟩:∃x,w.heap.size+1=x:=⟨_,rfl⟩;have HG:Hid (w.heap.size+1=G):=hG;rw[hG] at D1 ⊢;rw[af] at X1 ai ⊢;have H:R≠G:=by omega
 clear hG af;refine(qu C lo G _ _ D1.out (by simp)).mono ?_;rintro e w2 ⟨rfl,dd,ff⟩;obtain⟨b0,hb0⟩:∃b0:Nat,([]:List Bk).length=b0:=⟨_,rfl⟩;rw[hb0];have aa:Hid (b0=0):=hb0.symm;obtain⟨B2,HB2⟩:∃X,Hid (([]:List Bk) ++ [bk0]=X):=⟨_,rfl⟩;rw[HB2.out] at dd;have L:Hid (B2.length=1):=by rw[←HB2.out];exact(rfl:([] ++ [bk0]).length=1)
 have D2:Hid (DSt w2 C lo G B2):=dd;have F2:Hid (FrD C lo G w1 w2):=ff;clear dd ff hb0;go_wp2_with fail
 refine(kU C lo G _ _ D2.out).mono ?_;rintro e w3 ⟨d,rfl,dd,ff⟩;have D3:Hid (DSt w3 C lo G B2):=dd;have F3:Hid (FrD C lo G w1 w3):=F2.out.trans ff;clear dd ff;go_wp2_with fail
 refine(qk C lo G _ b0 24 d 0 0 0 _ D3.out (by have:=aa.out;have:=L.out;omega) (by have:=L.out;omega)).mono ?_;rintro e w4 ⟨v4,B4,rfl,hl,dd,ff⟩;have M:Hid (B4.length=1):=hl.trans L.out;have D4:Hid (DSt w4 C lo G B4):=dd;have F4:Hid (FrD C lo G w1 w4):=F3.out.trans ff;have I:lo≤w4.heap.size:=by have h1:=dd.hG;have h2:=dd.xx;omega
 clear dd ff hl;go_wp2_with fail
 obtain⟨w5,hw5⟩:∃W,w4.alloc (.cells #[vi d] 3)=W:=⟨_,rfl⟩;have b5:Below w4.heap.size w4 w5:=by rw[←hw5];exact Bel.alloc _ _
 have D5:Hid (DSt w5 C lo G B4):=D4.out.later b5;have F5:Hid (FrD C lo G w1 w5):=F4.out.trans (FrD.later b5 D4.out.cur.lt);have K5:Hid (ja w5 lo (sq w4.heap.size 0 1 1) [d]):=by rw[←hw5];exact Qu rfl I
 try rw[hw5]
 clear hw5 b5;refine(agW C lo G 2 (by omega) B4 b0 (sq w4.heap.size 0 1 1) [d] _ D5.out (by have:=aa.out;have:=M.out;omega) (by have:=M.out;simp[Kc];omega) K5.out (by simp) (by simp)).mono ?_;rintro e w6 ⟨en,kv6,l6,B6,rfl,he1,he2,he3,dd,hk,hk0,hk1,ff⟩;have D6:Hid (DSt w6 C lo G B6):=dd;obtain⟨n6,hn6⟩:∃n,B6.length=n:=⟨_,rfl⟩;have J:Hid (B6.length=n6):=hn6;rw[hn6] at he1 he2 he3;have ak:n6≤900:=by have:=M.out;simp[Kc] at he3;omega
 have F6:Hid (FrD C lo G w1 w6):=F5.out.trans ff;have K6:Hid (ja w6 lo kv6 l6):=hk;have ag:Hid (0<l6.length∧l6.length≤1000):=⟨hk0,by simp at hk1;omega⟩;clear dd ff hk hk0 hk1 he2 he3 hn6;go_wp2_with fail
 obtain⟨g,cap,vals,x,hx,gs,c1,hlog,hgl,q0,q2,q3,q4,q5,hfz⟩:=D6.out.open (i:=en) (by rw[J.out];exact he1);have am:g≠C:=by have:=D6.out.hC;omega
 have aj:G≠C:=by have h1:=D6.out.hC;have h2:=D6.out.hG;omega
 have ae:jE w6.drew C lo G (sq g 0 B6.length cap) B6 vals:=⟨gs.box,gs.row,gs.ins,gs.phi,gs.apL,gs.apP⟩;refine wp_region_any (by kernel_rfl) ?_;refine agX C lo G g n6 cap en kv6 w6.drew B6 l6 x vals D6.out.drew J.out he1 hx ae (by exact K6.out) ag.out (by exact hgl) am aj (fun j h2 h6=>?_) (fun j=>hfz j) _ ?_ ?_ ?_ ?_ _ ?_
 ·have hj:j=2∨j=3∨j=4∨j=5:=by omega
  rcases hj with rfl|rfl|rfl|rfl
  ·exact q2
  ·exact q3
  ·exact q4
  ·exact q5
 ·rfl
 ·rfl
 ·rfl
 ·rfl
 rintro f W' ⟨B',hl',dd0,ff0,gs7⟩;have ff:FrD C lo G w6 W':=⟨⟨ff0.bel.os,ff0.bel.tape,ff0.bel.output,ff0.bel.size,ff0.bel.block⟩,ff0.block⟩;have D7:Hid (DSt W' C lo G B'):=dd0;have F7:Hid (FrD C lo G w1 W'):=F6.out.trans ff;have G7:Hid (jE W' C lo G (sq g 0 B'.length cap) B' vals):=gs7;have O:Hid (B'.length=n6):=hl'.trans J.out;have x7:W'.heap[R]?=some (.cells #[.slice none 0 0,vi 0] 26 (0,0)):=F7.out.block R _ r X1.out H (fun c t z e=>by cases e;decide);have X7:Hid (W'.heap[R]?=some (.cells #[.slice none 0 0,vi 0] 26 (0,0))):=x7;obtain⟨_,p1,p2,_,_⟩:=gs7.cells;have y0:W'.cell? (Z R 0)=some (.slice none 0 0):=by simp[World.cell?,x7]
 have y1:W'.cell? (Z R 1)=some (vi 0):=by simp[World.cell?,x7]
 have z0:W'.frozen? (Z R 0)=false:=by simp[World.frozen?,x7]
 have z1:W'.frozen? (Z R 1)=false:=by simp[World.frozen?,x7]
 rw[hl',J.out] at p1;have B:=Zp W' R 0 1 (sq g 0 n6 cap) (vi vals);have G8:Hid (jE ((W'.setCell (Z R 0) (sq g 0 n6 cap)).setCell (Z R 1) (vi vals)) C lo G (sq g 0 B'.length cap) B' vals):=gs7.aside B x7 (by decide) (by decide) (by decide) (by decide) (fun e=>H e.symm);have ad:Below lo W' ((W'.setCell (Z R 0) (sq g 0 n6 cap)).setCell (Z R 1) (vi vals)):=((Below.refl lo W').setCell (p:=(Z R 0)) r _).setCell (p:=(Z R 1)) r _;have K:Hid (Below lo W' ((W'.setCell (Z R 0) (sq g 0 n6 cap)).setCell (Z R 1) (vi vals))):=ad;clear hl' dd0 ff0 ff gs ae gs7 c1 q0 q2 q3 q4 q5 hfz hx hlog hgl x7 B ad;have V:List.range' 28 12 = [28,29,30,31,32,33,34,35,36,37,38,39]:=rfl;simp only[aaa,V,List.foldl_cons,List.foldl_nil,Act.put,Exit.then,sT,sS,sZ]
 go_at_K
 go_wp2_with fail
 have r0:((W'.setCell (Z R 0) (sq g 0 n6 cap)).setCell (Z R 1) (vi vals)).cell? (Z R 0)=some (sq g 0 n6 cap):=by
  rw[World.cell?_setCell_other _ _ _ _ (by simp)];exact World.cell?_setCell_same _ _ _ y0
 have r1:((W'.setCell (Z R 0) (sq g 0 n6 cap)).setCell (Z R 1) (vi vals)).cell? (Z R 1)=some (vi vals) :=
  World.cell?_setCell_same _ _ _ ((World.cell?_setCell_other _ _ _ _ (by simp)).trans y1)
 refine bodyPost_ret (v:=.agg #[sq g 0 n6 cap,vi vals]) (by simp[results,Tryz.results84,go_sem,r0,r1]) rfl ?_;refine⟨G,g,cap,B',vals,by rw[O.out],by rw[O.out];omega,by rw[O.out];exact ak,?_,?_,?_,?_,?_⟩
 ·rw[←U.out];exact⟨D7.out.hC,D7.out.hG,D7.out.cur.below D7.out.hC K.out,_,_,G8.out⟩
 ·rw[←U.out];exact G8.out
 ·exact F1.out.trans (F7.out.bel.trans (K.out.mono (Nat.le_of_lt D7.out.hC)))
 ·have h1:=ac.out.size;have h2:=F7.out.bel.size;have h3:=K.out.size;first|exact Nat.le_trans (by omega) h3|exact Nat.lt_of_lt_of_le (by omega) h3
 ·intro k c z ao hk;have an:k<w.heap.size:=(aI hk).1;have aq:=ab.out;have ap:=HG.out;have ar:=U.out;have e1:w1.heap[k]?=some (.cells c 26 z):=(ac.out.block k an).trans hk;have e2:W'.heap[k]?=some (.cells c 26 z):=F7.out.block k _ (by omega) e1 (by omega) (fun c t z e=>by cases e;decide);exact(Below.heap_setCell _ _ _ k (by show k≠R;omega)).trans ((Below.heap_setCell _ _ _ k (by show k≠R;omega)).trans e2)
theorem Jq {w:World}{lo:Nat}{e:TypeId}{s:Nat}{v:Value}{n:Nat}{xs:List Value}(h:w.ownsRow lo e s v n xs):∃a cap,v=.slice a n cap∧n≤maxLen∧(0<n→∃g,a=some (Z g 0)∧∀i,i<n*s→w.cell? (Z g i)=xs[i]?):=by
 have hl:=h.1;rcases h.2 with ⟨rfl,h0⟩ | ⟨g,cap,cur,rfl,hlo,hg,h1,h2,h3,h4⟩
 ·exact⟨none,0,by rw[h0],by rw[h0];exact Nat.zero_le _,fun hp=>absurd hp (by omega)⟩
 ·refine⟨_,cap,rfl,by omega,fun _=>⟨g,rfl,fun i hi=>?_⟩⟩;have e1:(cur.toList.take (n*s))[i]?=cur[i]?:=by rw[List.getElem?_take];simp[hi]
  rw[←h4,e1];simp[World.cell?,hg]
theorem qo {w:World}{lo:Nat}{e:TypeId}{s:Nat}{v:Value}{n:Nat}{xs:List Value}(h:w.ownsRow lo e s v n xs):∃a cap,v=.slice a n cap∧n≤maxLen∧(0<n→∃g,a=some (Z g 0)∧lo≤g∧∀i,i<n*s→w.cell? (Z g i)=xs[i]?):=by
 have hl:=h.1;rcases h.2 with ⟨rfl,h0⟩ | ⟨g,cap,cur,rfl,hlo,hg,h1,h2,h3,h4⟩
 ·exact⟨none,0,by rw[h0],by rw[h0];exact Nat.zero_le _,fun hp=>absurd hp (by omega)⟩
 ·refine⟨_,cap,rfl,by omega,fun _=>⟨g,rfl,hlo,fun i hi=>?_⟩⟩;have e1:(cur.toList.take (n*s))[i]?=cur[i]?:=by rw[List.getElem?_take];simp[hi]
  rw[←h4,e1];simp[World.cell?,hg]
theorem Kh : maxLen≤9223372036854775807:=by decide
def Jr (w:World)(lo:Nat)(v:Value)(n:Nat):Prop :=
 ∃xs,w.ownsRow lo 107 2 v n xs∧(∀i,i<n→∃d av al,xs[i*2]?=some (vi d)∧xs[i*2+1]?=some av∧kL w lo av al)
theorem qJ.weak {w:World}{lo:Nat}{v:Value}{n:Nat}(h:qJ w lo v n):Jr w lo v n:=by
 obtain⟨xs,h1,h2,_⟩:=h;refine⟨xs,h1,fun i hi=>?_⟩;obtain⟨d,av,al,e1,e2,e3⟩:=h2 i hi;exact⟨d,av,al,e1,e2,e3.1⟩
theorem acT {w:World}{lo:Nat}{v:Value}{n:Nat}(h:kL w lo v n):∃l:List jy,jz lo 2 qq w v l:=by
 obtain⟨a,cap,rfl,_,h16,hc⟩:=h;by_cases hp:0<n
 ·obtain⟨b,off,cur,rfl,hlob,hb,hd⟩:=hc hp;have cell:∀j,j<n*2→∃z,w.cell? (Z b (off+j))=some (vi z):=fun j hj=>by
   obtain⟨z,hz⟩:=hd j hj;exact⟨z,by simp[World.cell?,hb,hz]⟩
  obtain⟨l,hl,hq⟩:=XN (α:=jy) (n:=n) (Q:=fun i x=>qq w b (off+i*2) x) (fun i hi=>by
   obtain⟨z0,e0⟩:=cell (i*2) (by omega);obtain⟨z1,e1⟩:=cell (i*2+1) (by omega)
   exact⟨⟨z0,z1⟩,e0,by rw[Nat.add_assoc];exact e1⟩)
  exact⟨l,_,cap,by rw[hl],by rw[hl];omega,fun _=>⟨b,off,rfl,hlob,hq⟩⟩
 ·have h0:n=0:=by omega
  subst h0;exact⟨[],a,cap,rfl,by simp,fun hp=>absurd hp (by simp)⟩
theorem agY {w:World}{lo:Nat}{v:Value}{n:Nat}(h:Jr w lo v n):∃l:List yy,jz lo 2 (yz lo) w v l:=by
 obtain⟨xs,h1,h2⟩:=h;obtain⟨a,cap,rfl,hm,hc⟩:=qo h1;by_cases hp:0<n
 ·obtain⟨g,rfl,hlog,hcell⟩:=hc hp
  obtain⟨l,hl,hq⟩:=XN (α:=yy) (n:=n) (Q:=fun i x=>yz lo w g (0+i*2) x) (fun i hi=>by
   obtain⟨d,av,al,e1,e2,e3⟩:=h2 i hi;obtain⟨la,hla⟩:=acT e3
   exact⟨⟨d,la⟩,by rw[Nat.zero_add,hcell _ (by omega)];exact e1,av,by rw[Nat.zero_add,hcell _ (by omega)];exact e2,hla⟩)
  exact⟨l,_,cap,by rw[hl],by rw[hl];exact Nat.le_trans hm Kh,fun _=>⟨g,0,rfl,hlog,hq⟩⟩
 ·have h0:n=0:=by omega
  subst h0;exact⟨[],a,cap,rfl,by simp,fun hp=>absurd hp (by simp)⟩
theorem Zr {w:World}{lo:Nat}{v:Value}{n:Nat}(h:ym w lo v n):∃l:List kS,jz lo 5 jU w v l:=by
 obtain⟨xs,h1,h2,_⟩:=h;obtain⟨a,cap,rfl,hm,hc⟩:=qo h1;have hl:=h1.1;by_cases hp:0<n
 ·obtain⟨g,rfl,hlog,hcell⟩:=hc hp;have cell:∀j,j<n*5→∃z,w.cell? (Z g j)=some (vi z):=fun j hj=>by
   have hx:xs[j]?=some xs[j]:=List.getElem?_eq_getElem (by omega);obtain⟨z,hz⟩:=h2 _ (List.getElem_mem (by omega:j<xs.length));exact⟨z,by rw[hcell j hj,hx,hz]⟩
  obtain⟨l,hll,hq⟩:=XN (α:=kS) (n:=n) (Q:=fun i x=>jU w g (0+i*5) x) (fun i hi=>by
   obtain⟨z0,e0⟩:=cell (i*5) (by omega);obtain⟨z1,e1⟩:=cell (i*5+1) (by omega);obtain⟨z2,e2⟩:=cell (i*5+2) (by omega);obtain⟨z3,e3⟩:=cell (i*5+3) (by omega);obtain⟨z4,e4⟩:=cell (i*5+4) (by omega);refine⟨⟨z0,z1,z2,z3,z4⟩,?_⟩;unfold jU;rw[Nat.zero_add]
   exact⟨e0,e1,e2,e3,e4⟩)
  exact⟨l,_,cap,by rw[hll],by rw[hll];exact Nat.le_trans hm Kh,fun _=>⟨g,0,rfl,hlog,hq⟩⟩
 ·have h0:n=0:=by omega
  subst h0;exact⟨[],a,cap,rfl,by simp,fun hp=>absurd hp (by simp)⟩
theorem fn_read {w:World}{lo:Nat}{bv:Value}{bs:List Bk}(vals:Int)(row:w.ownsRow lo 43 6 bv bs.length (bkCells bs))(ins:∀(i:Nat) (b:Bk),bs[i]?=some b→ym w lo b.lv b.ln)(phi:∀(i:Nat) (b:Bk),bs[i]?=some b→Jr w lo b.pv b.pn) :
  ∃F:FnD,qt lo w (.agg #[bv,vi vals]) F∧F.blocks.length=bs.length:=by
 obtain⟨a,cap,rfl,hm,hc⟩:=qo row;by_cases hp:0<bs.length
 ·obtain⟨g,rfl,hlog,hcell⟩:=hc hp
  obtain⟨l,hl,hq⟩:=XN (α:=jc) (n:=bs.length) (Q:=fun i x=>qH lo w g (0+i*6) x) (fun i hi=>by
   have hb:bs[i]?=some bs[i]:=List.getElem?_eq_getElem hi;obtain⟨lp,hlp⟩:=agY (phi i _ hb);obtain⟨ll,hll⟩:=Zr (ins i _ hb);have c:∀j,j<6→w.cell? (Z g (0+i*6+j))=bs[i].cells[j]?:=fun j hj=>by
    rw[Nat.zero_add,hcell _ (by omega)];exact KF bs i j _ hb hj
   exact⟨⟨lp,ll,⟨bs[i].k,bs[i].a,bs[i].t,bs[i].e⟩⟩,bs[i].pv,bs[i].lv,c 0 (by omega),c 1 (by omega),c 2 (by omega),c 3 (by omega),c 4 (by omega),c 5 (by omega),hlp,hll⟩)
  refine⟨⟨l,vals⟩,⟨_,rfl,_,cap,?_,?_,fun _=>⟨g,0,rfl,hlog,hq⟩⟩,hl⟩
  ·show Value.slice _ _ _=Value.slice _ l.length _;rw[hl]
  ·show l.length≤_;rw[hl];exact Nat.le_trans hm Kh
 ·have h0:bs.length=0:=by omega
  rw[h0];exact⟨⟨[],vals⟩,⟨_,rfl,a,cap,rfl,by simp,fun hp=>absurd hp (by simp)⟩,rfl⟩
def j9 (C:Nat)(w W:World):Prop := ∀r c z,C<r→w.heap[r]?=some (.cells c 26 z)→W.heap[r]?=some (.cells c 26 z)
def kj (lo g n cap:Nat)(w:World):Prop := ∃bs:List Bk,bs.length=n∧w.ownsRow lo 43 6 (sq g 0 n cap) n (bkCells bs)∧(∀(i:Nat) (b:Bk),bs[i]?=some b→ym w lo b.lv b.ln)∧(∀(i:Nat) (b:Bk),bs[i]?=some b→Jr w lo b.pv b.pn)
theorem jE.prog {w:World}{C lo G g n cap m:Nat}{bs:List Bk}{vals:Int}(h:jE w C lo G (sq g 0 m cap) bs vals)(hn:bs.length=n)(hm:m=n):kj lo g n cap w:=by
 subst hm hn;exact⟨bs,rfl,h.row,h.ins,fun i b hb=>(h.phi i b hb).weak⟩
theorem Js (G:Nat)(W:World):(Instr.fieldAt 26 (.pointer (some (Z G 0))) 1).run Tryz.prog W=.ok (.pointer (some (Z G 1))) W:=by kernel_rfl
theorem yN (G o:Nat)(W:World):(Instr.fieldAt 43 (.pointer (some (Z G o))) 1).run Tryz.prog W=.ok (.pointer (some (Z G (o+1)))) W:=by kernel_rfl
theorem Zs (G o:Nat)(W:World):(Instr.fieldAt 41 (.pointer (some (Z G (o+2)))) 2).run Tryz.prog W=.ok (.pointer (some (Z G (o+4)))) W:=by kernel_rfl
theorem aaB (G o:Nat)(W:World):(Instr.fieldAt 47 (.pointer (some (Z G o))) 0).run Tryz.prog W=.ok (.pointer (some (Z G o))) W:=by kernel_rfl
theorem aaC (G o:Nat)(W:World):(Instr.fieldAt 47 (.pointer (some (Z G o))) 1).run Tryz.prog W=.ok (.pointer (some (Z G (o+1)))) W:=by kernel_rfl
theorem aaD (G o:Nat)(W:World):(Instr.fieldAt 47 (.pointer (some (Z G o))) 2).run Tryz.prog W=.ok (.pointer (some (Z G (o+2)))) W:=by kernel_rfl
theorem jS {w:World}{G:Nat}{v:Value}(h:w.cell? (Z G 0)=some v):(Instr.loadAt 24 (.pointer (some (Z G 0)))).run Tryz.prog w=.ok v w:=by
 simp[Instr.loadAt,Instr.sureAddr,go_sem,h]
theorem Jt {w:World}{G:Nat}{v:Value}(h:w.cell? (Z G 1)=some v):(Instr.loadAt 3 (.pointer (some (Z G 1)))).run Tryz.prog w=.ok v w:=by
 simp[Instr.loadAt,Instr.sureAddr,go_sem,h]
theorem Ju {w:World}{g j:Nat}{v:Value}(h:w.cell? (Z g j)=some v):(Instr.loadAt 39 (.pointer (some (Z g j)))).run Tryz.prog w=.ok v w:=by
 simp[Instr.loadAt,Instr.sureAddr,go_sem,h]
theorem run_store_int {w:World}{g j:Nat}{u:Value}(h:w.cell? (Z g j)=some u)(hf:w.frozen? (Z g j)=false)(z:Int):(Instr.storeAt 3 (.pointer (some (Z g j))) (vi z)).run Tryz.prog w=.ok () (w.setCell (Z g j) (vi z)):=by
 simp[Instr.storeAt,Instr.sureAddr,go_sem,h,hf]
theorem zP {g n cap i:Nat}(hi:i<n)(W:World):(Instr.indexAt 39 (sq g 0 n cap) (vi (i:Int))).run Tryz.prog W=.ok (.pointer (some (Z g (i*5)))) W:=by
 simp[Instr.indexAt,asIntOf,Sem.run_bind,run_underlying Tryz.underlying39,Tryz.sizeOf47,hi,Addr.add];intro h;omega
section
variable {o:Oper} {a:Act}
theorem acU {x:Operand}{ad:Option Addr}{n c:Nat}(ho:o.op=.call { callee:=.builtin .len,args := #[x],argTypes := #[24] })(hx:a.eval x=.slice ad n c)(w:World):(execOp a.eval o).run Tryz.prog w=.ok (.value (vi (n:Int))) w:=by
 unfold execOp;simp only[ho,resolve,invoke,builtin,Sem.run_bind,Sem.run_pure,Result.andThen_ok,List.map_toArray,List.map_cons,List.map_nil,hx];simp[Builtin.len_,go_sem]
theorem acV {x:Operand}{z0:Int}(ho:o.op=.binOp .sub 3 x (.const (vi 1)) 3)(hx:a.eval x=vi z0)(w:World):∃z:Int,(execOp a.eval o).run Tryz.prog w=.ok (.value (vi z)) w:=by
 have h0:a.eval (.const (vi 1))=vi 1:=rfl;exact⟨_,by simp[execOp,ho,hx,h0,eqGuard,binOp,Op.intArith];rfl⟩
theorem abg {x:Operand}{z0:Int}(ho:o.op=.binOp .add 3 x (.const (vi 1)) 3)(hx:a.eval x=vi z0)(w:World):∃z:Int,(execOp a.eval o).run Tryz.prog w=.ok (.value (vi z)) w:=by
 have h0:a.eval (.const (vi 1))=vi 1:=rfl;exact⟨_,by simp[execOp,ho,hx,h0,eqGuard,binOp,Op.intArith];rfl⟩
theorem aaE {p q r s:Operand}{z0 z1 z2 z3:Int}(ho:o.op=.build 41 #[(0,p),(1,q),(2,r),(3,s)])(hp:a.eval p=vi z0)(hq:a.eval q=vi z1)(hr:a.eval r=vi z2)(hs:a.eval s=vi z3)(w:World):(execOp a.eval o).run Tryz.prog w=.ok (.value (.agg #[vi z0,vi z1,vi z2,vi z3])) w:=by
 have h:(Instr.build 41 #[(0,vi z0),(1,vi z1),(2,vi z2),(3,vi z3)]).run Tryz.prog w=.ok (.agg #[vi z0,vi z1,vi z2,vi z3]) w:=by kernel_rfl
 simp[execOp,ho,hp,hq,hr,hs,h]
theorem agZ (ho:o.op=.buildSlice 30 10 #[(0,.const (vi 0)),(1,.const (vi 1)),(2,.const (vi 11)),(3,.const (vi 20)),(4,.const (vi 21)),(5,.const (vi 22)),(6,.const (vi 23)),(7,.const (vi 24)),(8,.const (vi 25)),(9,.const (vi 26))])(w:World):(execOp a.eval o).run Tryz.prog w=.ok (.value (sq w.heap.size 0 10 10)) (w.alloc (.cells #[vi 0,vi 1,vi 11,vi 20,vi 21,vi 22,vi 23,vi 24,vi 25,vi 26] 3)):=by
 have h:(Instr.buildSlice 30 10 #[((0:Nat),vi 0),((1:Nat),vi 1),((2:Nat),vi 11),((3:Nat),vi 20),((4:Nat),vi 21),((5:Nat),vi 22),((6:Nat),vi 23),((7:Nat),vi 24),((8:Nat),vi 25),((9:Nat),vi 26)]).run Tryz.prog w=.ok (sq w.heap.size 0 10 10) (w.alloc (.cells #[vi 0,vi 1,vi 11,vi 20,vi 21,vi 22,vi 23,vi 24,vi 25,vi 26] 3)):=by
  simp[Instr.buildSlice,go_sem]
 simp only[execOp,ho,List.map_toArray,List.map_cons,List.map_nil,Act.eval];simp[h]
end
theorem afB (w:World):∀k,k<10→(w.alloc (.cells #[vi 0,vi 1,vi 11,vi 20,vi 21,vi 22,vi 23,vi 24,vi 25,vi 26] 3)).cell? (Z w.heap.size k)=some (vi ([0,1,11,20,21,22,23,24,25,26].getD k 0)):=by
 intro k hk;have h:k=0∨k=1∨k=2∨k=3∨k=4∨k=5∨k=6∨k=7∨k=8∨k=9:=by omega
 rcases h with rfl|rfl|rfl|rfl|rfl|rfl|rfl|rfl|rfl|rfl <;> simp
theorem jE.ag0 {w:World}{C lo G g n cap b nn lb lcap k f:Nat}{B:List Bk}{x:Bk}{vals:Int}(h:jE w C lo G (sq g 0 B.length cap) B vals)(hBn:B.length=n)(hx:B[b]?=some x)(hlv:x.lv=sq lb 0 nn lcap)(hln:x.ln=nn)(hk:k<nn)(hf:f<5)(z:Int) :
  (∃u,w.cell? (Z lb (k*5+f))=some u)∧w.frozen? (Z lb (k*5+f))=false∧kj lo g n cap (w.setCell (Z lb (k*5+f)) (vi z))∧∀r c fv,w.heap[r]?=some (.cells c 26 fv)→r≠lb:=by
 obtain⟨xs,hxs,hints,h24⟩:=h.ins b x hx;rw[hlv,hln] at hxs;have K:=hxs.1;rcases hxs.2 with ⟨e,_⟩ | ⟨g',cap',cur,e,hlo,hg,h1,h2,h3,h4⟩
 ·cases e
 ·cases e
  have I:k*5+f<cur.size:=by omega
  have t:=qX w lb (k*5+f) (vi z);have H:∀{e:TypeId},47≠e→qQ w (some lb) e:=fun he r hr=>by cases hr;exact⟨_,_,_,hg,he⟩
  refine⟨⟨cur[k*5+f],by simp[World.cell?,hg,I]⟩,by simp[World.frozen?,hg],⟨B,hBn,?_,fun i y hy=>?_,fun i y hy=>?_⟩,fun r c fv hr e=>?_⟩
  ·rw[←hBn];exact j8 h.row t (H (by decide))
  ·by_cases e:i=b
   ·subst e;rw[hx] at hy;cases hy
    refine⟨xs.set (k*5+f) (vi z),?_,fun v hv=>?_,by rw[hln] at h24 ⊢;exact h24⟩
    ·rw[hlv,hln];refine⟨by rw[List.length_set];exact K,.inr ⟨lb,lcap,cur.setIfInBounds (k*5+f) (vi z),rfl,hlo,?_,h1,h2,by simpa using h3,?_⟩⟩
     ·obtain⟨J,hkk⟩:=aI hg;show(w.heap.modify lb _)[lb]?=_;rw[Array.getElem?_eq_getElem (by rw[Array.size_modify];exact J),Array.getElem_modify_self,hkk]
      rfl
     ·rw[←h4]
      apply List.ext_getElem?
      intro m;simp only[Array.toList_setIfInBounds,List.getElem?_take,List.getElem?_set];by_cases hm:m<nn*5
      ·simp only[hm,if_true];by_cases e:k*5+f=m
       ·subst e;simp[I];omega
       ·simp[e]
      ·simp[hm];omega
    ·rcases List.mem_or_eq_of_mem_set hv with hv|rfl
     ·exact hints v hv
     ·exact⟨z,rfl⟩
   ·exact(h.ins i y hy).apart t (fun r hr=>by
     cases hr
     intro e2
     exact h.apL b i x y (fun e3=>e e3.symm) hx hy lb (by rw[hlv];rfl) e2)
  ·exact((h.phi i y hy).other t (H (by decide)) (H (by decide))).weak
  ·rw[e,hg] at hr;cases hr
noncomputable def jG:Array Oper:=rF Tryz.f64 8
def acW (C lo FB R0 g n cap b nn lb lcap:Nat)(vals:Int)(w0:World):List (Value→World→Prop) := [(fun v w=>v=.pointer (some (Z FB 0))),(fun v w=>v=sq g 0 n cap),(fun v w=>v=vi (b:Int)),(fun v w=>v=.pointer (some (Z C 0))),(fun v w=>∃z:Int,v=vi z),(fun v w=>∃z:Int,v=vi z),(fun v w=>v=.pointer (some (Z g (b*6)))),(fun v w=>v=.pointer (some (Z g (b*6+2)))),(fun v w=>v=.pointer (some (Z g (b*6+4))))]
def QJ (C lo FB R0 g n cap b nn lb lcap:Nat)(vals:Int)(w0:World)(j:Nat)(v:Value)(w:World):Prop:=((acW C lo FB R0 g n cap b nn lb lcap vals w0).getD j (fun _ _=>True)) v w
theorem Zt : ∀(i:Nat) (o:Oper),jG[i]?=some o→∀e∈o.after,e.on<i:=by
 have h:(List.range 10).all (fun i=>match jG[i]? with | some o=>o.after.all (fun e=>decide (e.on<i)) | none=>true)=true:=by kernel_rfl
 intro i o ho e he;have hi:i<10:=(aI ho).1;have:=List.all_eq_true.1 h i (List.mem_range.2 hi);rw[ho] at this;simp only[Array.all_eq_true'] at this;simpa using this e he
theorem Yz : ∀(i:Nat) (o:Oper),jG[i]?=some o→o.guard=none:=by
 have h:(List.range 10).all (fun i=>match jG[i]? with | some o=>o.guard.isNone | none=>true)=true:=by kernel_rfl
 intro i o ho;have hi:i<10:=(aI ho).1;have:=List.all_eq_true.1 h i (List.mem_range.2 hi);rw[ho] at this;simpa using this
theorem aaF : ∀li:Array Bool,zD .any jG li→(∀o,jG[9]?=some o→∀e∈o.after,Region.binds .any e=true→li.getD e.on false=true)→∀j,j<9→li.getD j false=true:=by
 intro li hc hl;have hlast:∀i,jb .any jG 9 i=true→li.getD i false=true:=fun i hi=>by
  obtain⟨e,he,hb,h2⟩:=jD hi (Array.getElem?_eq_getElem (by decide:9<jG.size));rw[←h2];exact hl _ (Array.getElem?_eq_getElem (by decide:9<jG.size)) e he hb
 have r:∀j i,j<9→li.getD j false=true→jb .any jG j i=true→li.getD i false=true:=fun j i hj H hi=>by
  have G:j<jG.size:=by show j<10;omega
  obtain⟨e,he,hb,h2⟩:=jD hi (Array.getElem?_eq_getElem G);rw[←h2];exact hc j _ (Array.getElem?_eq_getElem G) H e he hb
 have B:∀i,i<9→(jb .any jG 9 i=true∨(∃k,k<9∧jb .any jG 9 k=true∧jb .any jG k i=true)∨∃k m,k<9∧m<9∧jb .any jG 9 m=true∧jb .any jG m k=true∧jb .any jG k i=true):=by
  have t:(List.range 9).all (fun i=>jb .any jG 9 i || (List.range 9).any (fun k=>jb .any jG 9 k && jb .any jG k i) || (List.range 9).any (fun k=>(List.range 9).any (fun m=>jb .any jG 9 m && (jb .any jG m k && jb .any jG k i))))=true:=by kernel_rfl
  intro i hi;have:=List.all_eq_true.1 t i (List.mem_range.2 hi);simp only[Bool.or_eq_true,List.any_eq_true,List.mem_range,Bool.and_eq_true] at this;rcases this with (h | ⟨k,hk,h1,h2⟩) | ⟨k,hk,m,hm,h1,h2,h3⟩
  ·exact .inl h
  ·exact .inr (.inl ⟨k,hk,h1,h2⟩)
  ·exact .inr (.inr ⟨k,m,hk,hm,h1,h2,h3⟩)
 intro j hj;rcases B j hj with h | ⟨k,hk,h1,h2⟩ | ⟨k,m,hk,hm,h1,h2,h3⟩
 ·exact hlast j h
 ·exact r k j hk (hlast k h1) h2
 ·exact r k j hk (r m k hm (hlast m h1) h2) h3
theorem aaG (C lo FB R0 g n cap b nn lb lcap:Nat)(vals:Int)(w0:World)(hC:C<lo):∀j v w w',QJ C lo FB R0 g n cap b nn lb lcap vals w0 j v w→Fr C w w'→QJ C lo FB R0 g n cap b nn lb lcap vals w0 j v w':=by
 intro j v w w' h hf;have hk:=ju.fr hf hC;by_cases hj:j<9
 ·have r:j=0∨j=1∨j=2∨j=3∨j=4∨j=5∨j=6∨j=7∨j=8:=by omega
  rcases r with rfl|rfl|rfl|rfl|rfl|rfl|rfl|rfl|rfl
  ·exact h
  ·exact h
  ·exact h
  ·exact h
  ·obtain⟨z,h1⟩:=h;exact⟨z,h1⟩
  ·obtain⟨z,h1⟩:=h;exact⟨z,h1⟩
  ·exact h
  ·exact h
  ·exact h
 ·unfold QJ at h ⊢;have hlen:(acW C lo FB R0 g n cap b nn lb lcap vals w0).length=9:=rfl;rw[List.getD_eq_getElem?_getD,List.getElem?_eq_none (by omega)]
  trivial
theorem drawTo (C lo FB R0 g n cap b nn lb lcap:Nat)(vals:Int)(w0:World)(G:Nat)(B:List Bk)(x:Bk)(D:DSt w0 C lo G B)(gs:jE w0 C lo G (sq g 0 B.length cap) B vals)(hBn:B.length=n)(hb:b<n)(hx:B[b]?=some x)(fb:∃fv,w0.heap[FB]?=some (.cells #[sq g 0 n cap,vi vals] 26 fv))(hFC:FB≠C)(rb:∃c fv,w0.heap[R0]?=some (.cells c 26 fv))(hRC:R0≠C)(a0:Act)(hsz:a0.tmps.size=173)(h0:a0.eval (.tmp 0)=.pointer (some (Z C 0)))(h3:a0.eval (.tmp 3)=.pointer (some (Z FB 0)))(h4:a0.eval (.tmp 4)=vi (b:Int))(h5:a0.eval (.tmp 5)=vi (nn:Int))
  (Q:Exit→Act→World→Prop) (hQ:∀(f:Nat→Value) (W':World),(fun W=>kj lo g n cap W∧W.heap[FB]?=w0.heap[FB]?∧W.heap[R0]?=w0.heap[R0]?∧j9 C w0 W∧Below C w0 W∧Cur W C) W'→Q .normal (aaa a0 (List.range' 33 9) f) W') :
  wpAny Tryz.prog .any jG Q 10 (Array.replicate 10 false) a0 w0:=by
 obtain⟨fv,fb⟩:=fb;obtain⟨rc,rv,rb⟩:=rb;have h:FB<w0.heap.size:=(aI fb).1;have H:R0<w0.heap.size:=(aI rb).1;have U:∀w,Cur w C∧Fr C w0 w→w.cell? (Z FB 0)=some (sq g 0 n cap)∧w.cell? (Z FB 1)=some (vi vals):=fun w hS=>⟨(hS.2.cell (x:=(Z FB 0)) h hFC).trans (by simp[World.cell?,fb]),(hS.2.cell (x:=(Z FB 1)) h hFC).trans (by simp[World.cell?,fb])⟩
 obtain⟨g0,cap0,e0,hlog,hgw,hgG,hgc,hgf⟩:=gs.at hx;cases e0
 have J:g≠C:=by have:=D.hC;omega
 have I:∀k c z,w0.heap[k]?=some (.cells c 26 z)→k≠g:=fun k c z hk e=>by
  obtain⟨c2,hc2⟩:=jo gs.row g rfl;rw[e,hc2] at hk;cases hk
 have O:∀w,Cur w C∧Fr C w0 w→DSt w C lo G B∧jE w C lo G (sq g 0 B.length cap) B vals:=fun w hS=>⟨D.draw hS.2 hS.1,gs.lo D.hG (ju.fr hS.2 D.hC)⟩
 have X:∀w,Cur w C∧Fr C w0 w→∀j,j<6→∃u,w.cell? (Z g (b*6+j))=some u∧w.frozen? (Z g (b*6+j))=false:=fun w hS j hj=>by
  have h6:x.cells[j]?=some (x.cells[j]'(by simpa [Bk.cells] using hj)):=List.getElem?_eq_getElem _;exact⟨_,(hS.2.cell (x:=(Z g (b*6+j))) hgw J).trans (hgc j _ hj h6),(hS.2.frozen (x:=(Z g (b*6+j))) hgw J).trans (hgf _)⟩
 refine yJ (N:=9) (s0:=33) (a0:=a0) (S:=fun w=>Cur w C∧Fr C w0 w) (R:=Fr C) (T:=QJ C lo FB R0 g n cap b nn lb lcap vals w0) (Post:=fun W=>kj lo g n cap W∧W.heap[FB]?=w0.heap[FB]?∧W.heap[R0]?=w0.heap[R0]?∧j9 C w0 W∧Below C w0 W∧Cur W C)
  rfl (by omega) Zt Yz aaF (aaG C lo FB R0 g n cap b nn lb lcap vals w0 D.hC) ?hop ?hlast ?hQ 10 _ a0 w0 (by simp) ⟨by simp,fun j o ho hj=>?cl,rfl,rfl,fun _ _=>rfl,.inl ⟨by simp,⟨D.cur,Fr.refl _ _⟩,fun j hj L=>?nt⟩⟩
 case cl=>
  have:(Array.replicate 10 false).getD j false=false:=by simp[Array.getD]
  rw[this] at hj;cases hj
 case nt=>
  have:(Array.replicate 10 false).getD j false=false:=by simp[Array.getD]
  rw[this] at L;cases L
 case hQ=>
  intro a w e1 e2 e3 hP;rw[zF e1 e2 e3];exact hQ _ w hP
 case hlast=>
  intro o ho a w es eo hS hT K hK;obtain⟨_,rfl⟩:=aI ho;have ev:∀t:Nat,t<33→a.eval (.tmp t)=a0.eval (.tmp t):=fun t ht=>by
   show a.tmps.getD t undef=a0.tmps.getD t undef;rw[Array.getD_eq_getD_getElem?,Array.getD_eq_getD_getElem?,eo t (.inl ht)]
  obtain⟨z,d0⟩:=hT 5 (by omega);have d1:=hT 8 (by omega);obtain⟨u,q,r⟩:=X w hS 4 (by omega);obtain⟨dw,gw⟩:=O w hS;have M:=(gw.but b).setCell (b' := { x with t:=z }) (j:=4) (u:=vi z) hx (by omega) rfl (gw.ins b x hx) (gw.phi b x hx) (fun m y hm hy=>⟨gw.apL b m x y (fun e=>hm e.symm) hx hy,gw.apL m b y x hm hy hx⟩) (fun m y hm hy=>⟨gw.apP b m x y (fun e=>hm e.symm) hx hy,gw.apP m b y x hm hy hx⟩);refine qF (kV rfl d1 d0 (run_store_int q r z)) (hK _ ⟨M.prog (by rw[List.length_set];exact hBn) (by rw[hBn]),?_,?_,?_,?_,hS.1.below D.hC ((Below.refl lo w).setCell (p:=(Z g (b*6+4))) hlog _)⟩)
  ·exact(Below.heap_setCell _ _ _ FB (I FB _ _ fb)).trans (hS.2.block FB h hFC)
  ·exact(Below.heap_setCell _ _ _ R0 (I R0 _ _ rb)).trans (hS.2.block R0 H hRC)
  ·intro R0 rc rv aa rb;have hRC:R0≠C:=by omega
   have H:R0<w0.heap.size:=(aI rb).1;exact((Below.heap_setCell _ _ _ R0 (I R0 _ _ rb)).trans (hS.2.block R0 H hRC)).trans rb
  ·exact(hS.2.yL (Nat.le_of_lt D.cur.lt)).trans ((Below.refl C w).setCell (p:=(Z g (b*6+4))) (by show C≤g;have:=D.hC;omega) _)
 case hop=>
  intro j hj o ho a w es eo hS hT K hK;have ev:∀t:Nat,t<33→a.eval (.tmp t)=a0.eval (.tmp t):=fun t ht=>by
   show a.tmps.getD t undef=a0.tmps.getD t undef;rw[Array.getD_eq_getD_getElem?,Array.getD_eq_getD_getElem?,eo t (.inl ht)]
  have V:j=0∨j=1∨j=2∨j=3∨j=4∨j=5∨j=6∨j=7∨j=8:=by omega
  rcases V with rfl|rfl|rfl|rfl|rfl|rfl|rfl|rfl|rfl
  ·obtain⟨_,rfl⟩:=aI ho;exact jQ rfl ((ev 3 (by omega)).trans h3) (jR FB 0 w) (hK _ _ (Fr.refl C w) hS rfl)
  ·obtain⟨_,rfl⟩:=aI ho;have d0:=hT 0 (by omega) (by kernel_rfl);exact qm rfl d0 (jS (U w hS).1) (hK _ _ (Fr.refl C w) hS rfl)
  ·obtain⟨_,rfl⟩:=aI ho;exact wp_move rfl ((ev 4 (by omega)).trans h4) (hK _ _ (Fr.refl C w) hS rfl)
  ·obtain⟨_,rfl⟩:=aI ho;exact wp_move rfl ((ev 0 (by omega)).trans h0) (hK _ _ (Fr.refl C w) hS rfl)
  ·obtain⟨_,rfl⟩:=aI ho;have d0:=hT 3 (by omega) (by kernel_rfl);refine jx (f:=48) (args := #[.pointer (some (Z C 0)),vi 18]) (kY (y:=.const (vi 18)) rfl d0 rfl (enters_of Tryz.func48 (by kernel_rfl) rfl) _) (jH C 18 w hS.1) ?_;rintro e w1 ⟨z,rfl,_,_,_,hf,hc⟩;exact⟨_,rfl,hK _ _ hf ⟨hc,hS.2.trans hf⟩ ⟨z,rfl⟩⟩
  ·obtain⟨_,rfl⟩:=aI ho;obtain⟨z0,d0⟩:=hT 4 (by omega) (by kernel_rfl);obtain⟨z,hz⟩:=acV (o:=jG[5]) rfl d0 w;exact jt hz (hK _ _ (Fr.refl C w) hS ⟨z,rfl⟩)
  ·obtain⟨_,rfl⟩:=aI ho;have d0:=hT 1 (by omega) (by kernel_rfl);have d1:=hT 2 (by omega) (by kernel_rfl);exact qK rfl d0 d1 (jN hb w) (hK _ _ (Fr.refl C w) hS rfl)
  ·obtain⟨_,rfl⟩:=aI ho;have d0:=hT 6 (by omega) (by kernel_rfl);exact jQ rfl d0 (yM g (b*6) w) (hK _ _ (Fr.refl C w) hS rfl)
  ·obtain⟨_,rfl⟩:=aI ho;have d0:=hT 7 (by omega) (by kernel_rfl);exact jQ rfl d0 (Zs g (b*6) w) (hK _ _ (Fr.refl C w) hS rfl)
noncomputable def jv:Array Oper:=rF Tryz.f64 10
def Zu (C lo FB R0 g n cap b nn lb lcap:Nat)(vals:Int)(w0:World):List (Value→World→Prop) := [(fun v w=>v=.pointer (some (Z FB 0))),(fun v w=>v=sq g 0 n cap),(fun v w=>v=vi (b:Int)),(fun v w=>v=.pointer (some (Z C 0))),(fun v w=>∃z:Int,v=vi z),(fun v w=>v=.pointer (some (Z C 0))),(fun v w=>∃z:Int,v=vi z),(fun v w=>v=.pointer (some (Z C 0))),(fun v w=>v=.pointer (some (Z FB 0))),(fun v w=>v=sq g 0 n cap),(fun v w=>v=vi (n:Int)),(fun v w=>∃z:Int,v=vi z),(fun v w=>v=.pointer (some (Z C 0))),(fun v w=>v=.pointer (some (Z FB 0))),(fun v w=>v=sq g 0 n cap),(fun v w=>v=vi (n:Int)),(fun v w=>∃z:Int,v=vi z),(fun v w=>∃z0 z1 z2 z3:Int,v=.agg #[vi z0,vi z1,vi z2,vi z3]),(fun v w=>v=.pointer (some (Z g (b*6)))),(fun v w=>v=.pointer (some (Z g (b*6+2))))]
def Jv (C lo FB R0 g n cap b nn lb lcap:Nat)(vals:Int)(w0:World)(j:Nat)(v:Value)(w:World):Prop:=((Zu C lo FB R0 g n cap b nn lb lcap vals w0).getD j (fun _ _=>True)) v w
theorem XH : ∀(i:Nat) (o:Oper),jv[i]?=some o→∀e∈o.after,e.on<i:=by
 have h:(List.range 21).all (fun i=>match jv[i]? with | some o=>o.after.all (fun e=>decide (e.on<i)) | none=>true)=true:=by kernel_rfl
 intro i o ho e he;have hi:i<21:=(aI ho).1;have:=List.all_eq_true.1 h i (List.mem_range.2 hi);rw[ho] at this;simp only[Array.all_eq_true'] at this;simpa using this e he
theorem QK : ∀(i:Nat) (o:Oper),jv[i]?=some o→o.guard=none:=by
 have h:(List.range 21).all (fun i=>match jv[i]? with | some o=>o.guard.isNone | none=>true)=true:=by kernel_rfl
 intro i o ho;have hi:i<21:=(aI ho).1;have:=List.all_eq_true.1 h i (List.mem_range.2 hi);rw[ho] at this;simpa using this
theorem YA : ∀li:Array Bool,zD .any jv li→(∀o,jv[20]?=some o→∀e∈o.after,Region.binds .any e=true→li.getD e.on false=true)→∀j,j<20→li.getD j false=true:=by
 intro li hc hl;have hlast:∀i,jb .any jv 20 i=true→li.getD i false=true:=fun i hi=>by
  obtain⟨e,he,hb,h2⟩:=jD hi (Array.getElem?_eq_getElem (by decide:20<jv.size));rw[←h2];exact hl _ (Array.getElem?_eq_getElem (by decide:20<jv.size)) e he hb
 have r:∀j i,j<20→li.getD j false=true→jb .any jv j i=true→li.getD i false=true:=fun j i hj H hi=>by
  have G:j<jv.size:=by show j<21;omega
  obtain⟨e,he,hb,h2⟩:=jD hi (Array.getElem?_eq_getElem G);rw[←h2];exact hc j _ (Array.getElem?_eq_getElem G) H e he hb
 have B:∀i,i<20→(jb .any jv 20 i=true∨(∃k,k<20∧jb .any jv 20 k=true∧jb .any jv k i=true)∨∃k m,k<20∧m<20∧jb .any jv 20 m=true∧jb .any jv m k=true∧jb .any jv k i=true):=by
  have t:(List.range 20).all (fun i=>jb .any jv 20 i || (List.range 20).any (fun k=>jb .any jv 20 k && jb .any jv k i) || (List.range 20).any (fun k=>(List.range 20).any (fun m=>jb .any jv 20 m && (jb .any jv m k && jb .any jv k i))))=true:=by kernel_rfl
  intro i hi;have:=List.all_eq_true.1 t i (List.mem_range.2 hi);simp only[Bool.or_eq_true,List.any_eq_true,List.mem_range,Bool.and_eq_true] at this;rcases this with (h | ⟨k,hk,h1,h2⟩) | ⟨k,hk,m,hm,h1,h2,h3⟩
  ·exact .inl h
  ·exact .inr (.inl ⟨k,hk,h1,h2⟩)
  ·exact .inr (.inr ⟨k,m,hk,hm,h1,h2,h3⟩)
 intro j hj;rcases B j hj with h | ⟨k,hk,h1,h2⟩ | ⟨k,m,hk,hm,h1,h2,h3⟩
 ·exact hlast j h
 ·exact r k j hk (hlast k h1) h2
 ·exact r k j hk (r m k hm (hlast m h1) h2) h3
theorem YC (C lo FB R0 g n cap b nn lb lcap:Nat)(vals:Int)(w0:World)(hC:C<lo):∀j v w w',Jv C lo FB R0 g n cap b nn lb lcap vals w0 j v w→Fr C w w'→Jv C lo FB R0 g n cap b nn lb lcap vals w0 j v w':=by
 intro j v w w' h hf;have hk:=ju.fr hf hC;by_cases hj:j<20
 ·have r:j=0∨j=1∨j=2∨j=3∨j=4∨j=5∨j=6∨j=7∨j=8∨j=9∨j=10∨j=11∨j=12∨j=13∨j=14∨j=15∨j=16∨j=17∨j=18∨j=19:=by omega
  rcases r with rfl|rfl|rfl|rfl|rfl|rfl|rfl|rfl|rfl|rfl|rfl|rfl|rfl|rfl|rfl|rfl|rfl|rfl|rfl|rfl
  ·exact h
  ·exact h
  ·exact h
  ·exact h
  ·obtain⟨z,h1⟩:=h;exact⟨z,h1⟩
  ·exact h
  ·obtain⟨z,h1⟩:=h;exact⟨z,h1⟩
  ·exact h
  ·exact h
  ·exact h
  ·exact h
  ·obtain⟨z,h1⟩:=h;exact⟨z,h1⟩
  ·exact h
  ·exact h
  ·exact h
  ·exact h
  ·obtain⟨z,h1⟩:=h;exact⟨z,h1⟩
  ·obtain⟨z0,z1,z2,z3,h1⟩:=h;exact⟨z0,z1,z2,z3,h1⟩
  ·exact h
  ·exact h
 ·unfold Jv at h ⊢;have hlen:(Zu C lo FB R0 g n cap b nn lb lcap vals w0).length=20:=rfl;rw[List.getD_eq_getElem?_getD,List.getElem?_eq_none (by omega)]
  trivial
theorem drawTerm (C lo FB R0 g n cap b nn lb lcap:Nat)(vals:Int)(w0:World)(G:Nat)(B:List Bk)(x:Bk)(D:DSt w0 C lo G B)(gs:jE w0 C lo G (sq g 0 B.length cap) B vals)(hBn:B.length=n)(hb:b<n)(hx:B[b]?=some x)(fb:∃fv,w0.heap[FB]?=some (.cells #[sq g 0 n cap,vi vals] 26 fv))(hFC:FB≠C)(rb:∃c fv,w0.heap[R0]?=some (.cells c 26 fv))(hRC:R0≠C)(a0:Act)(hsz:a0.tmps.size=173)(h0:a0.eval (.tmp 0)=.pointer (some (Z C 0)))(h3:a0.eval (.tmp 3)=.pointer (some (Z FB 0)))(h4:a0.eval (.tmp 4)=vi (b:Int))(h5:a0.eval (.tmp 5)=vi (nn:Int))
  (Q:Exit→Act→World→Prop) (hQ:∀(f:Nat→Value) (W':World),(fun W=>kj lo g n cap W∧W.heap[FB]?=w0.heap[FB]?∧W.heap[R0]?=w0.heap[R0]?∧j9 C w0 W∧Below C w0 W∧Cur W C) W'→Q .normal (aaa a0 (List.range' 44 20) f) W') :
  wpAny Tryz.prog .any jv Q 21 (Array.replicate 21 false) a0 w0:=by
 obtain⟨fv,fb⟩:=fb;obtain⟨rc,rv,rb⟩:=rb;have H:FB<w0.heap.size:=(aI fb).1;have I:R0<w0.heap.size:=(aI rb).1;have J:∀w,Cur w C∧Fr C w0 w→w.cell? (Z FB 0)=some (sq g 0 n cap)∧w.cell? (Z FB 1)=some (vi vals):=fun w hS=>⟨(hS.2.cell (x:=(Z FB 0)) H hFC).trans (by simp[World.cell?,fb]),(hS.2.cell (x:=(Z FB 1)) H hFC).trans (by simp[World.cell?,fb])⟩
 obtain⟨g0,cap0,e0,hlog,hgw,hgG,hgc,hgf⟩:=gs.at hx;cases e0
 have L:g≠C:=by have:=D.hC;omega
 have h:∀k c z,w0.heap[k]?=some (.cells c 26 z)→k≠g:=fun k c z hk e=>by
  obtain⟨c2,hc2⟩:=jo gs.row g rfl;rw[e,hc2] at hk;cases hk
 have U:∀w,Cur w C∧Fr C w0 w→DSt w C lo G B∧jE w C lo G (sq g 0 B.length cap) B vals:=fun w hS=>⟨D.draw hS.2 hS.1,gs.lo D.hG (ju.fr hS.2 D.hC)⟩
 have r:∀w,Cur w C∧Fr C w0 w→∀j,j<6→∃u,w.cell? (Z g (b*6+j))=some u∧w.frozen? (Z g (b*6+j))=false:=fun w hS j hj=>by
  have h6:x.cells[j]?=some (x.cells[j]'(by simpa [Bk.cells] using hj)):=List.getElem?_eq_getElem _;exact⟨_,(hS.2.cell (x:=(Z g (b*6+j))) hgw L).trans (hgc j _ hj h6),(hS.2.frozen (x:=(Z g (b*6+j))) hgw L).trans (hgf _)⟩
 refine yJ (N:=20) (s0:=44) (a0:=a0) (S:=fun w=>Cur w C∧Fr C w0 w) (R:=Fr C) (T:=Jv C lo FB R0 g n cap b nn lb lcap vals w0) (Post:=fun W=>kj lo g n cap W∧W.heap[FB]?=w0.heap[FB]?∧W.heap[R0]?=w0.heap[R0]?∧j9 C w0 W∧Below C w0 W∧Cur W C)
  rfl (by omega) XH QK YA (YC C lo FB R0 g n cap b nn lb lcap vals w0 D.hC) ?hop ?hlast ?hQ 21 _ a0 w0 (by simp) ⟨by simp,fun j o ho hj=>?cl,rfl,rfl,fun _ _=>rfl,.inl ⟨by simp,⟨D.cur,Fr.refl _ _⟩,fun j hj M=>?nt⟩⟩
 case cl=>
  have:(Array.replicate 21 false).getD j false=false:=by simp[Array.getD]
  rw[this] at hj;cases hj
 case nt=>
  have:(Array.replicate 21 false).getD j false=false:=by simp[Array.getD]
  rw[this] at M;cases M
 case hQ=>
  intro a w e1 e2 e3 hP;rw[zF e1 e2 e3];exact hQ _ w hP
 case hlast=>
  intro o ho a w es eo hS hT K hK;obtain⟨_,rfl⟩:=aI ho;have ev:∀t:Nat,t<44→a.eval (.tmp t)=a0.eval (.tmp t):=fun t ht=>by
   show a.tmps.getD t undef=a0.tmps.getD t undef;rw[Array.getD_eq_getD_getElem?,Array.getD_eq_getD_getElem?,eo t (.inl ht)]
  obtain⟨z0,z1,z2,z3,d0⟩:=hT 17 (by omega);have d1:=hT 19 (by omega);obtain⟨u2,q2,f2⟩:=r w hS 2 (by omega);obtain⟨u3,q3,f3⟩:=r w hS 3 (by omega);obtain⟨u4,q4,f4⟩:=r w hS 4 (by omega);obtain⟨u5,q5,f5⟩:=r w hS 5 (by omega);obtain⟨dw,gw⟩:=U w hS;have O:=gw.xH hx z0 z1 z2 z3;have V:=(dw.xH gw hx z0 z1 z2 z3).2;refine qF (kV rfl d1 d0 (KW q2 q3 q4 q5 f2 f3 f4 f5 _ _ _ _)) (hK _ ⟨O.prog (by rw[List.length_set];exact hBn) (by rw[hBn]),?_,?_,?_,?_,(dw.xH gw hx z0 z1 z2 z3).1.cur⟩)
  ·rw[Below.heap_setCell _ _ _ FB (h FB _ _ fb),Below.heap_setCell _ _ _ FB (h FB _ _ fb),Below.heap_setCell _ _ _ FB (h FB _ _ fb),Below.heap_setCell _ _ _ FB (h FB _ _ fb)];exact hS.2.block FB H hFC
  ·rw[Below.heap_setCell _ _ _ R0 (h R0 _ _ rb),Below.heap_setCell _ _ _ R0 (h R0 _ _ rb),Below.heap_setCell _ _ _ R0 (h R0 _ _ rb),Below.heap_setCell _ _ _ R0 (h R0 _ _ rb)];exact hS.2.block R0 I hRC
  ·intro R0 rc rv aa rb;have hRC:R0≠C:=by omega
   have I:R0<w0.heap.size:=(aI rb).1;rw[Below.heap_setCell _ _ _ R0 (h R0 _ _ rb),Below.heap_setCell _ _ _ R0 (h R0 _ _ rb),Below.heap_setCell _ _ _ R0 (h R0 _ _ rb),Below.heap_setCell _ _ _ R0 (h R0 _ _ rb)];exact(hS.2.block R0 I hRC).trans rb
  ·exact(hS.2.yL (Nat.le_of_lt D.cur.lt)).trans V.bel
 case hop=>
  intro j hj o ho a w es eo hS hT K hK;have ev:∀t:Nat,t<44→a.eval (.tmp t)=a0.eval (.tmp t):=fun t ht=>by
   show a.tmps.getD t undef=a0.tmps.getD t undef;rw[Array.getD_eq_getD_getElem?,Array.getD_eq_getD_getElem?,eo t (.inl ht)]
  have X:j=0∨j=1∨j=2∨j=3∨j=4∨j=5∨j=6∨j=7∨j=8∨j=9∨j=10∨j=11∨j=12∨j=13∨j=14∨j=15∨j=16∨j=17∨j=18∨j=19:=by omega
  rcases X with rfl|rfl|rfl|rfl|rfl|rfl|rfl|rfl|rfl|rfl|rfl|rfl|rfl|rfl|rfl|rfl|rfl|rfl|rfl|rfl
  ·obtain⟨_,rfl⟩:=aI ho;exact jQ rfl ((ev 3 (by omega)).trans h3) (jR FB 0 w) (hK _ _ (Fr.refl C w) hS rfl)
  ·obtain⟨_,rfl⟩:=aI ho;have d0:=hT 0 (by omega) (by kernel_rfl);exact qm rfl d0 (jS (J w hS).1) (hK _ _ (Fr.refl C w) hS rfl)
  ·obtain⟨_,rfl⟩:=aI ho;exact wp_move rfl ((ev 4 (by omega)).trans h4) (hK _ _ (Fr.refl C w) hS rfl)
  ·obtain⟨_,rfl⟩:=aI ho;exact wp_move rfl ((ev 0 (by omega)).trans h0) (hK _ _ (Fr.refl C w) hS rfl)
  ·obtain⟨_,rfl⟩:=aI ho;have d0:=hT 3 (by omega) (by kernel_rfl);refine jx (f:=48) (args := #[.pointer (some (Z C 0)),vi 5]) (kY (y:=.const (vi 5)) rfl d0 rfl (enters_of Tryz.func48 (by kernel_rfl) rfl) _) (jH C 5 w hS.1) ?_;rintro e w1 ⟨z,rfl,_,_,_,hf,hc⟩;exact⟨_,rfl,hK _ _ hf ⟨hc,hS.2.trans hf⟩ ⟨z,rfl⟩⟩
  ·obtain⟨_,rfl⟩:=aI ho;exact wp_move rfl ((ev 0 (by omega)).trans h0) (hK _ _ (Fr.refl C w) hS rfl)
  ·obtain⟨_,rfl⟩:=aI ho;have d0:=hT 5 (by omega) (by kernel_rfl);refine jx (f:=48) (args := #[.pointer (some (Z C 0)),vi 5]) (kY (y:=.const (vi 5)) rfl d0 rfl (enters_of Tryz.func48 (by kernel_rfl) rfl) _) (jH C 5 w hS.1) ?_;rintro e w1 ⟨z,rfl,_,_,_,hf,hc⟩;exact⟨_,rfl,hK _ _ hf ⟨hc,hS.2.trans hf⟩ ⟨z,rfl⟩⟩
  ·obtain⟨_,rfl⟩:=aI ho;exact wp_move rfl ((ev 0 (by omega)).trans h0) (hK _ _ (Fr.refl C w) hS rfl)
  ·obtain⟨_,rfl⟩:=aI ho;exact jQ rfl ((ev 3 (by omega)).trans h3) (jR FB 0 w) (hK _ _ (Fr.refl C w) hS rfl)
  ·obtain⟨_,rfl⟩:=aI ho;have d0:=hT 8 (by omega) (by kernel_rfl);exact qm rfl d0 (jS (J w hS).1) (hK _ _ (Fr.refl C w) hS rfl)
  ·obtain⟨_,rfl⟩:=aI ho;have d0:=hT 9 (by omega) (by kernel_rfl);exact jt (acU rfl d0 w) (hK _ _ (Fr.refl C w) hS rfl)
  ·obtain⟨_,rfl⟩:=aI ho;have d0:=hT 7 (by omega) (by kernel_rfl);have d1:=hT 10 (by omega) (by kernel_rfl);refine jx (f:=48) (args := #[.pointer (some (Z C 0)),vi (n:Int)]) (kY rfl d0 d1 (enters_of Tryz.func48 (by kernel_rfl) rfl) _) (jH C _ w hS.1) ?_;rintro e w1 ⟨z,rfl,_,_,_,hf,hc⟩;exact⟨_,rfl,hK _ _ hf ⟨hc,hS.2.trans hf⟩ ⟨z,rfl⟩⟩
  ·obtain⟨_,rfl⟩:=aI ho;exact wp_move rfl ((ev 0 (by omega)).trans h0) (hK _ _ (Fr.refl C w) hS rfl)
  ·obtain⟨_,rfl⟩:=aI ho;exact jQ rfl ((ev 3 (by omega)).trans h3) (jR FB 0 w) (hK _ _ (Fr.refl C w) hS rfl)
  ·obtain⟨_,rfl⟩:=aI ho;have d0:=hT 13 (by omega) (by kernel_rfl);exact qm rfl d0 (jS (J w hS).1) (hK _ _ (Fr.refl C w) hS rfl)
  ·obtain⟨_,rfl⟩:=aI ho;have d0:=hT 14 (by omega) (by kernel_rfl);exact jt (acU rfl d0 w) (hK _ _ (Fr.refl C w) hS rfl)
  ·obtain⟨_,rfl⟩:=aI ho;have d0:=hT 12 (by omega) (by kernel_rfl);have d1:=hT 15 (by omega) (by kernel_rfl);refine jx (f:=48) (args := #[.pointer (some (Z C 0)),vi (n:Int)]) (kY rfl d0 d1 (enters_of Tryz.func48 (by kernel_rfl) rfl) _) (jH C _ w hS.1) ?_;rintro e w1 ⟨z,rfl,_,_,_,hf,hc⟩;exact⟨_,rfl,hK _ _ hf ⟨hc,hS.2.trans hf⟩ ⟨z,rfl⟩⟩
  ·obtain⟨_,rfl⟩:=aI ho;obtain⟨z0,d0⟩:=hT 4 (by omega) (by kernel_rfl);obtain⟨z1,d1⟩:=hT 6 (by omega) (by kernel_rfl);obtain⟨z2,d2⟩:=hT 11 (by omega) (by kernel_rfl);obtain⟨z3,d3⟩:=hT 16 (by omega) (by kernel_rfl);exact jt (aaE rfl d0 d1 d2 d3 w) (hK _ _ (Fr.refl C w) hS ⟨z0,z1,z2,z3,rfl⟩)
  ·obtain⟨_,rfl⟩:=aI ho;have d0:=hT 1 (by omega) (by kernel_rfl);have d1:=hT 2 (by omega) (by kernel_rfl);exact qK rfl d0 d1 (jN hb w) (hK _ _ (Fr.refl C w) hS rfl)
  ·obtain⟨_,rfl⟩:=aI ho;have d0:=hT 18 (by omega) (by kernel_rfl);exact jQ rfl d0 (yM g (b*6) w) (hK _ _ (Fr.refl C w) hS rfl)
noncomputable def jT:Array Oper:=rF Tryz.f64 13
def aeL (C lo FB R0 g n cap b nn lb lcap:Nat)(vals:Int)(w0:World):List (Value→World→Prop) := [(fun v w=>v=.pointer (some (Z FB 0))),(fun v w=>v=sq g 0 n cap),(fun v w=>v=vi (b:Int)),(fun v w=>v=.pointer (some (Z g (b*6)))),(fun v w=>v=.pointer (some (Z g (b*6+1)))),(fun v w=>v=sq lb 0 nn lcap),(fun v w=>v=.pointer (some (Z C 0))),(fun v w=>v=vi (nn:Int)),(fun v w=>∃k:Nat,k<nn∧v=vi (k:Int)),(fun v w=>v=.pointer (some (Z C 0))),(fun v w=>v=.pointer (some (Z FB 1))),(fun v w=>v=vi vals),(fun v w=>∃z:Int,v=vi z),(fun v w=>∃z:Int,v=vi z),(fun v w=>∃k:Nat,k<nn∧v=.pointer (some (Z lb (k*5)))),(fun v w=>∃k:Nat,k<nn∧v=.pointer (some (Z lb (k*5+2))))]
def YT (C lo FB R0 g n cap b nn lb lcap:Nat)(vals:Int)(w0:World)(j:Nat)(v:Value)(w:World):Prop:=((aeL C lo FB R0 g n cap b nn lb lcap vals w0).getD j (fun _ _=>True)) v w
theorem aaH : ∀(i:Nat) (o:Oper),jT[i]?=some o→∀e∈o.after,e.on<i:=by
 have h:(List.range 17).all (fun i=>match jT[i]? with | some o=>o.after.all (fun e=>decide (e.on<i)) | none=>true)=true:=by kernel_rfl
 intro i o ho e he;have hi:i<17:=(aI ho).1;have:=List.all_eq_true.1 h i (List.mem_range.2 hi);rw[ho] at this;simp only[Array.all_eq_true'] at this;simpa using this e he
theorem Zv : ∀(i:Nat) (o:Oper),jT[i]?=some o→o.guard=none:=by
 have h:(List.range 17).all (fun i=>match jT[i]? with | some o=>o.guard.isNone | none=>true)=true:=by kernel_rfl
 intro i o ho;have hi:i<17:=(aI ho).1;have:=List.all_eq_true.1 h i (List.mem_range.2 hi);rw[ho] at this;simpa using this
theorem abI : ∀li:Array Bool,zD .any jT li→(∀o,jT[16]?=some o→∀e∈o.after,Region.binds .any e=true→li.getD e.on false=true)→∀j,j<16→li.getD j false=true:=by
 intro li hc hl;have hlast:∀i,jb .any jT 16 i=true→li.getD i false=true:=fun i hi=>by
  obtain⟨e,he,hb,h2⟩:=jD hi (Array.getElem?_eq_getElem (by decide:16<jT.size));rw[←h2];exact hl _ (Array.getElem?_eq_getElem (by decide:16<jT.size)) e he hb
 have r:∀j i,j<16→li.getD j false=true→jb .any jT j i=true→li.getD i false=true:=fun j i hj H hi=>by
  have G:j<jT.size:=by show j<17;omega
  obtain⟨e,he,hb,h2⟩:=jD hi (Array.getElem?_eq_getElem G);rw[←h2];exact hc j _ (Array.getElem?_eq_getElem G) H e he hb
 have B:∀i,i<16→(jb .any jT 16 i=true∨(∃k,k<16∧jb .any jT 16 k=true∧jb .any jT k i=true)∨∃k m,k<16∧m<16∧jb .any jT 16 m=true∧jb .any jT m k=true∧jb .any jT k i=true):=by
  have t:(List.range 16).all (fun i=>jb .any jT 16 i || (List.range 16).any (fun k=>jb .any jT 16 k && jb .any jT k i) || (List.range 16).any (fun k=>(List.range 16).any (fun m=>jb .any jT 16 m && (jb .any jT m k && jb .any jT k i))))=true:=by kernel_rfl
  intro i hi;have:=List.all_eq_true.1 t i (List.mem_range.2 hi);simp only[Bool.or_eq_true,List.any_eq_true,List.mem_range,Bool.and_eq_true] at this;rcases this with (h | ⟨k,hk,h1,h2⟩) | ⟨k,hk,m,hm,h1,h2,h3⟩
  ·exact .inl h
  ·exact .inr (.inl ⟨k,hk,h1,h2⟩)
  ·exact .inr (.inr ⟨k,m,hk,hm,h1,h2,h3⟩)
 intro j hj;rcases B j hj with h | ⟨k,hk,h1,h2⟩ | ⟨k,m,hk,hm,h1,h2,h3⟩
 ·exact hlast j h
 ·exact r k j hk (hlast k h1) h2
 ·exact r k j hk (r m k hm (hlast m h1) h2) h3
theorem abJ (C lo FB R0 g n cap b nn lb lcap:Nat)(vals:Int)(w0:World)(hC:C<lo):∀j v w w',YT C lo FB R0 g n cap b nn lb lcap vals w0 j v w→Fr C w w'→YT C lo FB R0 g n cap b nn lb lcap vals w0 j v w':=by
 intro j v w w' h hf;have hk:=ju.fr hf hC;by_cases hj:j<16
 ·have r:j=0∨j=1∨j=2∨j=3∨j=4∨j=5∨j=6∨j=7∨j=8∨j=9∨j=10∨j=11∨j=12∨j=13∨j=14∨j=15:=by omega
  rcases r with rfl|rfl|rfl|rfl|rfl|rfl|rfl|rfl|rfl|rfl|rfl|rfl|rfl|rfl|rfl|rfl
  ·exact h
  ·exact h
  ·exact h
  ·exact h
  ·exact h
  ·exact h
  ·exact h
  ·exact h
  ·obtain⟨k,h1,h2⟩:=h;exact⟨k,h1,h2⟩
  ·exact h
  ·exact h
  ·exact h
  ·obtain⟨z,h1⟩:=h;exact⟨z,h1⟩
  ·obtain⟨z,h1⟩:=h;exact⟨z,h1⟩
  ·obtain⟨k,h1,h2⟩:=h;exact⟨k,h1,h2⟩
  ·obtain⟨k,h1,h2⟩:=h;exact⟨k,h1,h2⟩
 ·unfold YT at h ⊢;have hlen:(aeL C lo FB R0 g n cap b nn lb lcap vals w0).length=16:=rfl;rw[List.getD_eq_getElem?_getD,List.getElem?_eq_none (by omega)]
  trivial
theorem drawA (C lo FB R0 g n cap b nn lb lcap:Nat)(vals:Int)(w0:World)(G:Nat)(B:List Bk)(x:Bk)(D:DSt w0 C lo G B)(gs:jE w0 C lo G (sq g 0 B.length cap) B vals)(hBn:B.length=n)(hb:b<n)(hx:B[b]?=some x)(fb:∃fv,w0.heap[FB]?=some (.cells #[sq g 0 n cap,vi vals] 26 fv))(hFC:FB≠C)(rb:∃c fv,w0.heap[R0]?=some (.cells c 26 fv))(hRC:R0≠C)(hlvx:x.lv=sq lb 0 nn lcap)(hlnx:x.ln=nn)(hnn:0<nn)(a0:Act)(hsz:a0.tmps.size=173)(h0:a0.eval (.tmp 0)=.pointer (some (Z C 0)))(h3:a0.eval (.tmp 3)=.pointer (some (Z FB 0)))(h4:a0.eval (.tmp 4)=vi (b:Int))(h5:a0.eval (.tmp 5)=vi (nn:Int))
  (Q:Exit→Act→World→Prop) (hQ:∀(f:Nat→Value) (W':World),(fun W=>kj lo g n cap W∧W.heap[FB]?=w0.heap[FB]?∧W.heap[R0]?=w0.heap[R0]?∧j9 C w0 W∧Below C w0 W∧Cur W C) W'→Q .normal (aaa a0 (List.range' 68 16) f) W') :
  wpAny Tryz.prog .any jT Q 17 (Array.replicate 17 false) a0 w0:=by
 obtain⟨fv,fb⟩:=fb;obtain⟨rc,rv,rb⟩:=rb;have H:FB<w0.heap.size:=(aI fb).1;have h:R0<w0.heap.size:=(aI rb).1;have L:∀w,Cur w C∧Fr C w0 w→w.cell? (Z FB 0)=some (sq g 0 n cap)∧w.cell? (Z FB 1)=some (vi vals):=fun w hS=>⟨(hS.2.cell (x:=(Z FB 0)) H hFC).trans (by simp[World.cell?,fb]),(hS.2.cell (x:=(Z FB 1)) H hFC).trans (by simp[World.cell?,fb])⟩
 obtain⟨g0,cap0,e0,hlog,hgw,hgG,hgc,hgf⟩:=gs.at hx;cases e0
 have I:g≠C:=by have:=D.hC;omega
 have ad:∀k c z,w0.heap[k]?=some (.cells c 26 z)→k≠g:=fun k c z hk e=>by
  obtain⟨c2,hc2⟩:=jo gs.row g rfl;rw[e,hc2] at hk;cases hk
 have O:∀w,Cur w C∧Fr C w0 w→DSt w C lo G B∧jE w C lo G (sq g 0 B.length cap) B vals:=fun w hS=>⟨D.draw hS.2 hS.1,gs.lo D.hG (ju.fr hS.2 D.hC)⟩
 have ac:∀w,Cur w C∧Fr C w0 w→∀j,j<6→∃u,w.cell? (Z g (b*6+j))=some u∧w.frozen? (Z g (b*6+j))=false:=fun w hS j hj=>by
  have h6:x.cells[j]?=some (x.cells[j]'(by simpa [Bk.cells] using hj)):=List.getElem?_eq_getElem _;exact⟨_,(hS.2.cell (x:=(Z g (b*6+j))) hgw I).trans (hgc j _ hj h6),(hS.2.frozen (x:=(Z g (b*6+j))) hgw I).trans (hgf _)⟩
 obtain⟨af,hix,hii,hi24⟩:=gs.ins b x hx;rw[hlvx,hlnx] at hix;have X:lb<w0.heap.size:=k9 hix lb rfl;have J:lo≤lb:=(World.ownsRow.lt hix lb rfl).1;have V:lb≠C:=by have:=D.hC;omega
 have aa:∀w,Cur w C∧Fr C w0 w→w.cell? (Z g (b*6+1))=some (sq lb 0 nn lcap):=fun w hS=>(hS.2.cell (x:=(Z g (b*6+1))) hgw I).trans (hgc 1 _ (by omega) (by rw[←hlvx];rfl))
 refine yJ (N:=16) (s0:=68) (a0:=a0) (S:=fun w=>Cur w C∧Fr C w0 w) (R:=Fr C) (T:=YT C lo FB R0 g n cap b nn lb lcap vals w0) (Post:=fun W=>kj lo g n cap W∧W.heap[FB]?=w0.heap[FB]?∧W.heap[R0]?=w0.heap[R0]?∧j9 C w0 W∧Below C w0 W∧Cur W C)
  rfl (by omega) aaH Zv abI (abJ C lo FB R0 g n cap b nn lb lcap vals w0 D.hC) ?hop ?hlast ?hQ 17 _ a0 w0 (by simp) ⟨by simp,fun j o ho hj=>?cl,rfl,rfl,fun _ _=>rfl,.inl ⟨by simp,⟨D.cur,Fr.refl _ _⟩,fun j hj M=>?nt⟩⟩
 case cl=>
  have:(Array.replicate 17 false).getD j false=false:=by simp[Array.getD]
  rw[this] at hj;cases hj
 case nt=>
  have:(Array.replicate 17 false).getD j false=false:=by simp[Array.getD]
  rw[this] at M;cases M
 case hQ=>
  intro a w e1 e2 e3 hP;rw[zF e1 e2 e3];exact hQ _ w hP
 case hlast=>
  intro o ho a w es eo hS hT K hK;obtain⟨_,rfl⟩:=aI ho;have ev:∀t:Nat,t<68→a.eval (.tmp t)=a0.eval (.tmp t):=fun t ht=>by
   show a.tmps.getD t undef=a0.tmps.getD t undef;rw[Array.getD_eq_getD_getElem?,Array.getD_eq_getD_getElem?,eo t (.inl ht)]
  obtain⟨z,d0⟩:=hT 13 (by omega);obtain⟨k,hk,d1⟩:=hT 15 (by omega);obtain⟨dw,gw⟩:=O w hS;obtain⟨⟨u,q⟩,r,hpr,hft⟩:=gw.ag0 hBn hx hlvx hlnx hk (f:=2) (by omega) z;refine qF (kV rfl d1 d0 (run_store_int q r z)) (hK _ ⟨hpr,?_,?_,?_,?_,hS.1.below D.hC ((Below.refl lo w).setCell (p:=(Z lb (k*5+2))) J _)⟩)
  ·exact(Below.heap_setCell _ _ _ FB (fun e=>hft FB _ _ ((hS.2.block FB H hFC).trans fb) e)).trans (hS.2.block FB H hFC)
  ·exact(Below.heap_setCell _ _ _ R0 (fun e=>hft R0 _ _ ((hS.2.block R0 h hRC).trans rb) e)).trans (hS.2.block R0 h hRC)
  ·intro R0 rc rv ab rb;have hRC:R0≠C:=by omega
   have h:R0<w0.heap.size:=(aI rb).1;exact((Below.heap_setCell _ _ _ R0 (fun e=>hft R0 _ _ ((hS.2.block R0 h hRC).trans rb) e)).trans (hS.2.block R0 h hRC)).trans rb
  ·exact(hS.2.yL (Nat.le_of_lt D.cur.lt)).trans ((Below.refl C w).setCell (p:=(Z lb (k*5+2))) (by show C≤lb;have:=D.hC;omega) _)
 case hop=>
  intro j hj o ho a w es eo hS hT K hK;have ev:∀t:Nat,t<68→a.eval (.tmp t)=a0.eval (.tmp t):=fun t ht=>by
   show a.tmps.getD t undef=a0.tmps.getD t undef;rw[Array.getD_eq_getD_getElem?,Array.getD_eq_getD_getElem?,eo t (.inl ht)]
  have U:j=0∨j=1∨j=2∨j=3∨j=4∨j=5∨j=6∨j=7∨j=8∨j=9∨j=10∨j=11∨j=12∨j=13∨j=14∨j=15:=by omega
  rcases U with rfl|rfl|rfl|rfl|rfl|rfl|rfl|rfl|rfl|rfl|rfl|rfl|rfl|rfl|rfl|rfl
  ·obtain⟨_,rfl⟩:=aI ho;exact jQ rfl ((ev 3 (by omega)).trans h3) (jR FB 0 w) (hK _ _ (Fr.refl C w) hS rfl)
  ·obtain⟨_,rfl⟩:=aI ho;have d0:=hT 0 (by omega) (by kernel_rfl);exact qm rfl d0 (jS (L w hS).1) (hK _ _ (Fr.refl C w) hS rfl)
  ·obtain⟨_,rfl⟩:=aI ho;exact wp_move rfl ((ev 4 (by omega)).trans h4) (hK _ _ (Fr.refl C w) hS rfl)
  ·obtain⟨_,rfl⟩:=aI ho;have d0:=hT 1 (by omega) (by kernel_rfl);have d1:=hT 2 (by omega) (by kernel_rfl);exact qK rfl d0 d1 (jN hb w) (hK _ _ (Fr.refl C w) hS rfl)
  ·obtain⟨_,rfl⟩:=aI ho;have d0:=hT 3 (by omega) (by kernel_rfl);exact jQ rfl d0 (yN g (b*6) w) (hK _ _ (Fr.refl C w) hS rfl)
  ·obtain⟨_,rfl⟩:=aI ho;have d0:=hT 4 (by omega) (by kernel_rfl);exact qm rfl d0 (Ju (aa w hS)) (hK _ _ (Fr.refl C w) hS rfl)
  ·obtain⟨_,rfl⟩:=aI ho;exact wp_move rfl ((ev 0 (by omega)).trans h0) (hK _ _ (Fr.refl C w) hS rfl)
  ·obtain⟨_,rfl⟩:=aI ho;exact wp_move rfl ((ev 5 (by omega)).trans h5) (hK _ _ (Fr.refl C w) hS rfl)
  ·obtain⟨_,rfl⟩:=aI ho;have d0:=hT 6 (by omega) (by kernel_rfl);have d1:=hT 7 (by omega) (by kernel_rfl);refine jx (f:=48) (args := #[.pointer (some (Z C 0)),vi (nn:Int)]) (kY rfl d0 d1 (enters_of Tryz.func48 (by kernel_rfl) rfl) _) (jH C _ w hS.1) ?_;rintro e w1 ⟨z,rfl,hz0,hz1,_,hf,hc⟩;have ae:=hz1 (by omega);exact⟨_,rfl,hK _ _ hf ⟨hc,hS.2.trans hf⟩ ⟨z.toNat,by omega,by rw[Int.toNat_of_nonneg hz0]⟩⟩
  ·obtain⟨_,rfl⟩:=aI ho;exact wp_move rfl ((ev 0 (by omega)).trans h0) (hK _ _ (Fr.refl C w) hS rfl)
  ·obtain⟨_,rfl⟩:=aI ho;exact jQ rfl ((ev 3 (by omega)).trans h3) (Js FB w) (hK _ _ (Fr.refl C w) hS rfl)
  ·obtain⟨_,rfl⟩:=aI ho;have d0:=hT 10 (by omega) (by kernel_rfl);exact qm rfl d0 (Jt (L w hS).2) (hK _ _ (Fr.refl C w) hS rfl)
  ·obtain⟨_,rfl⟩:=aI ho;have d0:=hT 11 (by omega) (by kernel_rfl);obtain⟨z,hz⟩:=abg (o:=jT[12]) rfl d0 w;exact jt hz (hK _ _ (Fr.refl C w) hS ⟨z,rfl⟩)
  ·obtain⟨_,rfl⟩:=aI ho;have d0:=hT 9 (by omega) (by kernel_rfl);obtain⟨z0,d1⟩:=hT 12 (by omega) (by kernel_rfl);refine jx (f:=48) (args := #[.pointer (some (Z C 0)),vi z0]) (kY rfl d0 d1 (enters_of Tryz.func48 (by kernel_rfl) rfl) _) (jH C _ w hS.1) ?_;rintro e w1 ⟨z,rfl,_,_,_,hf,hc⟩;exact⟨_,rfl,hK _ _ hf ⟨hc,hS.2.trans hf⟩ ⟨z,rfl⟩⟩
  ·obtain⟨_,rfl⟩:=aI ho;have d0:=hT 5 (by omega) (by kernel_rfl);obtain⟨k,hk,d1⟩:=hT 8 (by omega) (by kernel_rfl);exact qK rfl d0 d1 (zP hk w) (hK _ _ (Fr.refl C w) hS ⟨k,hk,rfl⟩)
  ·obtain⟨_,rfl⟩:=aI ho;obtain⟨k,hk,d0⟩:=hT 14 (by omega) (by kernel_rfl);exact jQ rfl d0 (aaD lb (k*5) w) (hK _ _ (Fr.refl C w) hS ⟨k,hk,rfl⟩)
noncomputable def jP:Array Oper:=rF Tryz.f64 16
def aeM (C lo FB R0 g n cap b nn lb lcap:Nat)(vals:Int)(w0:World):List (Value→World→Prop) := [(fun v w=>v=.pointer (some (Z FB 0))),(fun v w=>v=sq g 0 n cap),(fun v w=>v=vi (b:Int)),(fun v w=>v=.pointer (some (Z g (b*6)))),(fun v w=>v=.pointer (some (Z g (b*6+1)))),(fun v w=>v=sq lb 0 nn lcap),(fun v w=>v=.pointer (some (Z C 0))),(fun v w=>v=vi (nn:Int)),(fun v w=>∃k:Nat,k<nn∧v=vi (k:Int)),(fun v w=>v=.pointer (some (Z C 0))),(fun v w=>v=.pointer (some (Z FB 1))),(fun v w=>v=vi vals),(fun v w=>∃z:Int,v=vi z),(fun v w=>∃z:Int,v=vi z),(fun v w=>∃z:Int,v=vi z),(fun v w=>∃k:Nat,k<nn∧v=.pointer (some (Z lb (k*5)))),(fun v w=>∃k:Nat,k<nn∧v=.pointer (some (Z lb (k*5+1))))]
def YU (C lo FB R0 g n cap b nn lb lcap:Nat)(vals:Int)(w0:World)(j:Nat)(v:Value)(w:World):Prop:=((aeM C lo FB R0 g n cap b nn lb lcap vals w0).getD j (fun _ _=>True)) v w
theorem aaI : ∀(i:Nat) (o:Oper),jP[i]?=some o→∀e∈o.after,e.on<i:=by
 have h:(List.range 18).all (fun i=>match jP[i]? with | some o=>o.after.all (fun e=>decide (e.on<i)) | none=>true)=true:=by kernel_rfl
 intro i o ho e he;have hi:i<18:=(aI ho).1;have:=List.all_eq_true.1 h i (List.mem_range.2 hi);rw[ho] at this;simp only[Array.all_eq_true'] at this;simpa using this e he
theorem Zw : ∀(i:Nat) (o:Oper),jP[i]?=some o→o.guard=none:=by
 have h:(List.range 18).all (fun i=>match jP[i]? with | some o=>o.guard.isNone | none=>true)=true:=by kernel_rfl
 intro i o ho;have hi:i<18:=(aI ho).1;have:=List.all_eq_true.1 h i (List.mem_range.2 hi);rw[ho] at this;simpa using this
theorem abK : ∀li:Array Bool,zD .any jP li→(∀o,jP[17]?=some o→∀e∈o.after,Region.binds .any e=true→li.getD e.on false=true)→∀j,j<17→li.getD j false=true:=by
 intro li hc hl;have hlast:∀i,jb .any jP 17 i=true→li.getD i false=true:=fun i hi=>by
  obtain⟨e,he,hb,h2⟩:=jD hi (Array.getElem?_eq_getElem (by decide:17<jP.size));rw[←h2];exact hl _ (Array.getElem?_eq_getElem (by decide:17<jP.size)) e he hb
 have r:∀j i,j<17→li.getD j false=true→jb .any jP j i=true→li.getD i false=true:=fun j i hj H hi=>by
  have G:j<jP.size:=by show j<18;omega
  obtain⟨e,he,hb,h2⟩:=jD hi (Array.getElem?_eq_getElem G);rw[←h2];exact hc j _ (Array.getElem?_eq_getElem G) H e he hb
 have B:∀i,i<17→(jb .any jP 17 i=true∨(∃k,k<17∧jb .any jP 17 k=true∧jb .any jP k i=true)∨∃k m,k<17∧m<17∧jb .any jP 17 m=true∧jb .any jP m k=true∧jb .any jP k i=true):=by
  have t:(List.range 17).all (fun i=>jb .any jP 17 i || (List.range 17).any (fun k=>jb .any jP 17 k && jb .any jP k i) || (List.range 17).any (fun k=>(List.range 17).any (fun m=>jb .any jP 17 m && (jb .any jP m k && jb .any jP k i))))=true:=by kernel_rfl
  intro i hi;have:=List.all_eq_true.1 t i (List.mem_range.2 hi);simp only[Bool.or_eq_true,List.any_eq_true,List.mem_range,Bool.and_eq_true] at this;rcases this with (h | ⟨k,hk,h1,h2⟩) | ⟨k,hk,m,hm,h1,h2,h3⟩
  ·exact .inl h
  ·exact .inr (.inl ⟨k,hk,h1,h2⟩)
  ·exact .inr (.inr ⟨k,m,hk,hm,h1,h2,h3⟩)
 intro j hj;rcases B j hj with h | ⟨k,hk,h1,h2⟩ | ⟨k,m,hk,hm,h1,h2,h3⟩
 ·exact hlast j h
 ·exact r k j hk (hlast k h1) h2
 ·exact r k j hk (r m k hm (hlast m h1) h2) h3
theorem abL (C lo FB R0 g n cap b nn lb lcap:Nat)(vals:Int)(w0:World)(hC:C<lo):∀j v w w',YU C lo FB R0 g n cap b nn lb lcap vals w0 j v w→Fr C w w'→YU C lo FB R0 g n cap b nn lb lcap vals w0 j v w':=by
 intro j v w w' h hf;have hk:=ju.fr hf hC;by_cases hj:j<17
 ·have r:j=0∨j=1∨j=2∨j=3∨j=4∨j=5∨j=6∨j=7∨j=8∨j=9∨j=10∨j=11∨j=12∨j=13∨j=14∨j=15∨j=16:=by omega
  rcases r with rfl|rfl|rfl|rfl|rfl|rfl|rfl|rfl|rfl|rfl|rfl|rfl|rfl|rfl|rfl|rfl|rfl
  ·exact h
  ·exact h
  ·exact h
  ·exact h
  ·exact h
  ·exact h
  ·exact h
  ·exact h
  ·obtain⟨k,h1,h2⟩:=h;exact⟨k,h1,h2⟩
  ·exact h
  ·exact h
  ·exact h
  ·obtain⟨z,h1⟩:=h;exact⟨z,h1⟩
  ·obtain⟨z,h1⟩:=h;exact⟨z,h1⟩
  ·obtain⟨z,h1⟩:=h;exact⟨z,h1⟩
  ·obtain⟨k,h1,h2⟩:=h;exact⟨k,h1,h2⟩
  ·obtain⟨k,h1,h2⟩:=h;exact⟨k,h1,h2⟩
 ·unfold YU at h ⊢;have hlen:(aeM C lo FB R0 g n cap b nn lb lcap vals w0).length=17:=rfl;rw[List.getD_eq_getElem?_getD,List.getElem?_eq_none (by omega)]
  trivial
theorem drawD (C lo FB R0 g n cap b nn lb lcap:Nat)(vals:Int)(w0:World)(G:Nat)(B:List Bk)(x:Bk)(D:DSt w0 C lo G B)(gs:jE w0 C lo G (sq g 0 B.length cap) B vals)(hBn:B.length=n)(hb:b<n)(hx:B[b]?=some x)(fb:∃fv,w0.heap[FB]?=some (.cells #[sq g 0 n cap,vi vals] 26 fv))(hFC:FB≠C)(rb:∃c fv,w0.heap[R0]?=some (.cells c 26 fv))(hRC:R0≠C)(hlvx:x.lv=sq lb 0 nn lcap)(hlnx:x.ln=nn)(hnn:0<nn)(a0:Act)(hsz:a0.tmps.size=173)(h0:a0.eval (.tmp 0)=.pointer (some (Z C 0)))(h3:a0.eval (.tmp 3)=.pointer (some (Z FB 0)))(h4:a0.eval (.tmp 4)=vi (b:Int))(h5:a0.eval (.tmp 5)=vi (nn:Int))
  (Q:Exit→Act→World→Prop) (hQ:∀(f:Nat→Value) (W':World),(fun W=>kj lo g n cap W∧W.heap[FB]?=w0.heap[FB]?∧W.heap[R0]?=w0.heap[R0]?∧j9 C w0 W∧Below C w0 W∧Cur W C) W'→Q .normal (aaa a0 (List.range' 88 17) f) W') :
  wpAny Tryz.prog .any jP Q 18 (Array.replicate 18 false) a0 w0:=by
 obtain⟨fv,fb⟩:=fb;obtain⟨rc,rv,rb⟩:=rb;have H:FB<w0.heap.size:=(aI fb).1;have h:R0<w0.heap.size:=(aI rb).1;have L:∀w,Cur w C∧Fr C w0 w→w.cell? (Z FB 0)=some (sq g 0 n cap)∧w.cell? (Z FB 1)=some (vi vals):=fun w hS=>⟨(hS.2.cell (x:=(Z FB 0)) H hFC).trans (by simp[World.cell?,fb]),(hS.2.cell (x:=(Z FB 1)) H hFC).trans (by simp[World.cell?,fb])⟩
 obtain⟨g0,cap0,e0,hlog,hgw,hgG,hgc,hgf⟩:=gs.at hx;cases e0
 have I:g≠C:=by have:=D.hC;omega
 have ad:∀k c z,w0.heap[k]?=some (.cells c 26 z)→k≠g:=fun k c z hk e=>by
  obtain⟨c2,hc2⟩:=jo gs.row g rfl;rw[e,hc2] at hk;cases hk
 have O:∀w,Cur w C∧Fr C w0 w→DSt w C lo G B∧jE w C lo G (sq g 0 B.length cap) B vals:=fun w hS=>⟨D.draw hS.2 hS.1,gs.lo D.hG (ju.fr hS.2 D.hC)⟩
 have ac:∀w,Cur w C∧Fr C w0 w→∀j,j<6→∃u,w.cell? (Z g (b*6+j))=some u∧w.frozen? (Z g (b*6+j))=false:=fun w hS j hj=>by
  have h6:x.cells[j]?=some (x.cells[j]'(by simpa [Bk.cells] using hj)):=List.getElem?_eq_getElem _;exact⟨_,(hS.2.cell (x:=(Z g (b*6+j))) hgw I).trans (hgc j _ hj h6),(hS.2.frozen (x:=(Z g (b*6+j))) hgw I).trans (hgf _)⟩
 obtain⟨af,hix,hii,hi24⟩:=gs.ins b x hx;rw[hlvx,hlnx] at hix;have X:lb<w0.heap.size:=k9 hix lb rfl;have J:lo≤lb:=(World.ownsRow.lt hix lb rfl).1;have V:lb≠C:=by have:=D.hC;omega
 have aa:∀w,Cur w C∧Fr C w0 w→w.cell? (Z g (b*6+1))=some (sq lb 0 nn lcap):=fun w hS=>(hS.2.cell (x:=(Z g (b*6+1))) hgw I).trans (hgc 1 _ (by omega) (by rw[←hlvx];rfl))
 refine yJ (N:=17) (s0:=88) (a0:=a0) (S:=fun w=>Cur w C∧Fr C w0 w) (R:=Fr C) (T:=YU C lo FB R0 g n cap b nn lb lcap vals w0) (Post:=fun W=>kj lo g n cap W∧W.heap[FB]?=w0.heap[FB]?∧W.heap[R0]?=w0.heap[R0]?∧j9 C w0 W∧Below C w0 W∧Cur W C)
  rfl (by omega) aaI Zw abK (abL C lo FB R0 g n cap b nn lb lcap vals w0 D.hC) ?hop ?hlast ?hQ 18 _ a0 w0 (by simp) ⟨by simp,fun j o ho hj=>?cl,rfl,rfl,fun _ _=>rfl,.inl ⟨by simp,⟨D.cur,Fr.refl _ _⟩,fun j hj M=>?nt⟩⟩
 case cl=>
  have:(Array.replicate 18 false).getD j false=false:=by simp[Array.getD]
  rw[this] at hj;cases hj
 case nt=>
  have:(Array.replicate 18 false).getD j false=false:=by simp[Array.getD]
  rw[this] at M;cases M
 case hQ=>
  intro a w e1 e2 e3 hP;rw[zF e1 e2 e3];exact hQ _ w hP
 case hlast=>
  intro o ho a w es eo hS hT K hK;obtain⟨_,rfl⟩:=aI ho;have ev:∀t:Nat,t<88→a.eval (.tmp t)=a0.eval (.tmp t):=fun t ht=>by
   show a.tmps.getD t undef=a0.tmps.getD t undef;rw[Array.getD_eq_getD_getElem?,Array.getD_eq_getD_getElem?,eo t (.inl ht)]
  obtain⟨z,d0⟩:=hT 14 (by omega);obtain⟨k,hk,d1⟩:=hT 16 (by omega);obtain⟨dw,gw⟩:=O w hS;obtain⟨⟨u,q⟩,r,hpr,hft⟩:=gw.ag0 hBn hx hlvx hlnx hk (f:=1) (by omega) z;refine qF (kV rfl d1 d0 (run_store_int q r z)) (hK _ ⟨hpr,?_,?_,?_,?_,hS.1.below D.hC ((Below.refl lo w).setCell (p:=(Z lb (k*5+1))) J _)⟩)
  ·exact(Below.heap_setCell _ _ _ FB (fun e=>hft FB _ _ ((hS.2.block FB H hFC).trans fb) e)).trans (hS.2.block FB H hFC)
  ·exact(Below.heap_setCell _ _ _ R0 (fun e=>hft R0 _ _ ((hS.2.block R0 h hRC).trans rb) e)).trans (hS.2.block R0 h hRC)
  ·intro R0 rc rv ab rb;have hRC:R0≠C:=by omega
   have h:R0<w0.heap.size:=(aI rb).1;exact((Below.heap_setCell _ _ _ R0 (fun e=>hft R0 _ _ ((hS.2.block R0 h hRC).trans rb) e)).trans (hS.2.block R0 h hRC)).trans rb
  ·exact(hS.2.yL (Nat.le_of_lt D.cur.lt)).trans ((Below.refl C w).setCell (p:=(Z lb (k*5+1))) (by show C≤lb;have:=D.hC;omega) _)
 case hop=>
  intro j hj o ho a w es eo hS hT K hK;have ev:∀t:Nat,t<88→a.eval (.tmp t)=a0.eval (.tmp t):=fun t ht=>by
   show a.tmps.getD t undef=a0.tmps.getD t undef;rw[Array.getD_eq_getD_getElem?,Array.getD_eq_getD_getElem?,eo t (.inl ht)]
  have U:j=0∨j=1∨j=2∨j=3∨j=4∨j=5∨j=6∨j=7∨j=8∨j=9∨j=10∨j=11∨j=12∨j=13∨j=14∨j=15∨j=16:=by omega
  rcases U with rfl|rfl|rfl|rfl|rfl|rfl|rfl|rfl|rfl|rfl|rfl|rfl|rfl|rfl|rfl|rfl|rfl
  ·obtain⟨_,rfl⟩:=aI ho;exact jQ rfl ((ev 3 (by omega)).trans h3) (jR FB 0 w) (hK _ _ (Fr.refl C w) hS rfl)
  ·obtain⟨_,rfl⟩:=aI ho;have d0:=hT 0 (by omega) (by kernel_rfl);exact qm rfl d0 (jS (L w hS).1) (hK _ _ (Fr.refl C w) hS rfl)
  ·obtain⟨_,rfl⟩:=aI ho;exact wp_move rfl ((ev 4 (by omega)).trans h4) (hK _ _ (Fr.refl C w) hS rfl)
  ·obtain⟨_,rfl⟩:=aI ho;have d0:=hT 1 (by omega) (by kernel_rfl);have d1:=hT 2 (by omega) (by kernel_rfl);exact qK rfl d0 d1 (jN hb w) (hK _ _ (Fr.refl C w) hS rfl)
  ·obtain⟨_,rfl⟩:=aI ho;have d0:=hT 3 (by omega) (by kernel_rfl);exact jQ rfl d0 (yN g (b*6) w) (hK _ _ (Fr.refl C w) hS rfl)
  ·obtain⟨_,rfl⟩:=aI ho;have d0:=hT 4 (by omega) (by kernel_rfl);exact qm rfl d0 (Ju (aa w hS)) (hK _ _ (Fr.refl C w) hS rfl)
  ·obtain⟨_,rfl⟩:=aI ho;exact wp_move rfl ((ev 0 (by omega)).trans h0) (hK _ _ (Fr.refl C w) hS rfl)
  ·obtain⟨_,rfl⟩:=aI ho;exact wp_move rfl ((ev 5 (by omega)).trans h5) (hK _ _ (Fr.refl C w) hS rfl)
  ·obtain⟨_,rfl⟩:=aI ho;have d0:=hT 6 (by omega) (by kernel_rfl);have d1:=hT 7 (by omega) (by kernel_rfl);refine jx (f:=48) (args := #[.pointer (some (Z C 0)),vi (nn:Int)]) (kY rfl d0 d1 (enters_of Tryz.func48 (by kernel_rfl) rfl) _) (jH C _ w hS.1) ?_;rintro e w1 ⟨z,rfl,hz0,hz1,_,hf,hc⟩;have ae:=hz1 (by omega);exact⟨_,rfl,hK _ _ hf ⟨hc,hS.2.trans hf⟩ ⟨z.toNat,by omega,by rw[Int.toNat_of_nonneg hz0]⟩⟩
  ·obtain⟨_,rfl⟩:=aI ho;exact wp_move rfl ((ev 0 (by omega)).trans h0) (hK _ _ (Fr.refl C w) hS rfl)
  ·obtain⟨_,rfl⟩:=aI ho;exact jQ rfl ((ev 3 (by omega)).trans h3) (Js FB w) (hK _ _ (Fr.refl C w) hS rfl)
  ·obtain⟨_,rfl⟩:=aI ho;have d0:=hT 10 (by omega) (by kernel_rfl);exact qm rfl d0 (Jt (L w hS).2) (hK _ _ (Fr.refl C w) hS rfl)
  ·obtain⟨_,rfl⟩:=aI ho;have d0:=hT 11 (by omega) (by kernel_rfl);obtain⟨z,hz⟩:=abg (o:=jP[12]) rfl d0 w;exact jt hz (hK _ _ (Fr.refl C w) hS ⟨z,rfl⟩)
  ·obtain⟨_,rfl⟩:=aI ho;have d0:=hT 9 (by omega) (by kernel_rfl);obtain⟨z0,d1⟩:=hT 12 (by omega) (by kernel_rfl);refine jx (f:=48) (args := #[.pointer (some (Z C 0)),vi z0]) (kY rfl d0 d1 (enters_of Tryz.func48 (by kernel_rfl) rfl) _) (jH C _ w hS.1) ?_;rintro e w1 ⟨z,rfl,_,_,_,hf,hc⟩;exact⟨_,rfl,hK _ _ hf ⟨hc,hS.2.trans hf⟩ ⟨z,rfl⟩⟩
  ·obtain⟨_,rfl⟩:=aI ho;obtain⟨z0,d0⟩:=hT 13 (by omega) (by kernel_rfl);obtain⟨z,hz⟩:=acV (o:=jP[14]) rfl d0 w;exact jt hz (hK _ _ (Fr.refl C w) hS ⟨z,rfl⟩)
  ·obtain⟨_,rfl⟩:=aI ho;have d0:=hT 5 (by omega) (by kernel_rfl);obtain⟨k,hk,d1⟩:=hT 8 (by omega) (by kernel_rfl);exact qK rfl d0 d1 (zP hk w) (hK _ _ (Fr.refl C w) hS ⟨k,hk,rfl⟩)
  ·obtain⟨_,rfl⟩:=aI ho;obtain⟨k,hk,d0⟩:=hT 15 (by omega) (by kernel_rfl);exact jQ rfl d0 (aaC lb (k*5) w) (hK _ _ (Fr.refl C w) hS ⟨k,hk,rfl⟩)
noncomputable def jI:Array Oper:=rF Tryz.f64 19
def acX (C lo FB R0 g n cap b nn lb lcap:Nat)(vals:Int)(w0:World):List (Value→World→Prop) := [(fun v w=>v=.pointer (some (Z FB 0))),(fun v w=>v=sq g 0 n cap),(fun v w=>v=vi (b:Int)),(fun v w=>v=.pointer (some (Z g (b*6)))),(fun v w=>v=.pointer (some (Z g (b*6+1)))),(fun v w=>v=sq lb 0 nn lcap),(fun v w=>v=.pointer (some (Z C 0))),(fun v w=>v=vi (nn:Int)),(fun v w=>∃k:Nat,k<nn∧v=vi (k:Int)),(fun v w=>v=.pointer (some (Z C 0))),(fun v w=>∃bb,v=sq bb 0 10 10∧bb≠C∧bb<w.heap.size∧∀k,k<10→w.cell? (Z bb k)=some (vi ([0,1,11,20,21,22,23,24,25,26].getD k 0))),(fun v w=>∃z:Int,v=vi z),(fun v w=>∃k:Nat,k<nn∧v=.pointer (some (Z lb (k*5)))),(fun v w=>∃k:Nat,k<nn∧v=.pointer (some (Z lb (k*5))))]
def QL (C lo FB R0 g n cap b nn lb lcap:Nat)(vals:Int)(w0:World)(j:Nat)(v:Value)(w:World):Prop:=((acX C lo FB R0 g n cap b nn lb lcap vals w0).getD j (fun _ _=>True)) v w
theorem Zx : ∀(i:Nat) (o:Oper),jI[i]?=some o→∀e∈o.after,e.on<i:=by
 have h:(List.range 15).all (fun i=>match jI[i]? with | some o=>o.after.all (fun e=>decide (e.on<i)) | none=>true)=true:=by kernel_rfl
 intro i o ho e he;have hi:i<15:=(aI ho).1;have:=List.all_eq_true.1 h i (List.mem_range.2 hi);rw[ho] at this;simp only[Array.all_eq_true'] at this;simpa using this e he
theorem YD : ∀(i:Nat) (o:Oper),jI[i]?=some o→o.guard=none:=by
 have h:(List.range 15).all (fun i=>match jI[i]? with | some o=>o.guard.isNone | none=>true)=true:=by kernel_rfl
 intro i o ho;have hi:i<15:=(aI ho).1;have:=List.all_eq_true.1 h i (List.mem_range.2 hi);rw[ho] at this;simpa using this
theorem aaJ : ∀li:Array Bool,zD .any jI li→(∀o,jI[14]?=some o→∀e∈o.after,Region.binds .any e=true→li.getD e.on false=true)→∀j,j<14→li.getD j false=true:=by
 intro li hc hl;have hlast:∀i,jb .any jI 14 i=true→li.getD i false=true:=fun i hi=>by
  obtain⟨e,he,hb,h2⟩:=jD hi (Array.getElem?_eq_getElem (by decide:14<jI.size));rw[←h2];exact hl _ (Array.getElem?_eq_getElem (by decide:14<jI.size)) e he hb
 have r:∀j i,j<14→li.getD j false=true→jb .any jI j i=true→li.getD i false=true:=fun j i hj H hi=>by
  have G:j<jI.size:=by show j<15;omega
  obtain⟨e,he,hb,h2⟩:=jD hi (Array.getElem?_eq_getElem G);rw[←h2];exact hc j _ (Array.getElem?_eq_getElem G) H e he hb
 have B:∀i,i<14→(jb .any jI 14 i=true∨(∃k,k<14∧jb .any jI 14 k=true∧jb .any jI k i=true)∨∃k m,k<14∧m<14∧jb .any jI 14 m=true∧jb .any jI m k=true∧jb .any jI k i=true):=by
  have t:(List.range 14).all (fun i=>jb .any jI 14 i || (List.range 14).any (fun k=>jb .any jI 14 k && jb .any jI k i) || (List.range 14).any (fun k=>(List.range 14).any (fun m=>jb .any jI 14 m && (jb .any jI m k && jb .any jI k i))))=true:=by kernel_rfl
  intro i hi;have:=List.all_eq_true.1 t i (List.mem_range.2 hi);simp only[Bool.or_eq_true,List.any_eq_true,List.mem_range,Bool.and_eq_true] at this;rcases this with (h | ⟨k,hk,h1,h2⟩) | ⟨k,hk,m,hm,h1,h2,h3⟩
  ·exact .inl h
  ·exact .inr (.inl ⟨k,hk,h1,h2⟩)
  ·exact .inr (.inr ⟨k,m,hk,hm,h1,h2,h3⟩)
 intro j hj;rcases B j hj with h | ⟨k,hk,h1,h2⟩ | ⟨k,m,hk,hm,h1,h2,h3⟩
 ·exact hlast j h
 ·exact r k j hk (hlast k h1) h2
 ·exact r k j hk (r m k hm (hlast m h1) h2) h3
theorem aaK (C lo FB R0 g n cap b nn lb lcap:Nat)(vals:Int)(w0:World)(hC:C<lo):∀j v w w',QL C lo FB R0 g n cap b nn lb lcap vals w0 j v w→Fr C w w'→QL C lo FB R0 g n cap b nn lb lcap vals w0 j v w':=by
 intro j v w w' h hf;have hk:=ju.fr hf hC;by_cases hj:j<14
 ·have r:j=0∨j=1∨j=2∨j=3∨j=4∨j=5∨j=6∨j=7∨j=8∨j=9∨j=10∨j=11∨j=12∨j=13:=by omega
  rcases r with rfl|rfl|rfl|rfl|rfl|rfl|rfl|rfl|rfl|rfl|rfl|rfl|rfl|rfl
  ·exact h
  ·exact h
  ·exact h
  ·exact h
  ·exact h
  ·exact h
  ·exact h
  ·exact h
  ·obtain⟨k,h1,h2⟩:=h;exact⟨k,h1,h2⟩
  ·exact h
  ·obtain⟨bb,h1,h2,h3,h4⟩:=h;exact⟨bb,h1,h2,Nat.lt_of_lt_of_le h3 hf.size,fun k hk=>(hf.cell (x:=(Z bb k)) h3 h2).trans (h4 k hk)⟩
  ·obtain⟨z,h1⟩:=h;exact⟨z,h1⟩
  ·obtain⟨k,h1,h2⟩:=h;exact⟨k,h1,h2⟩
  ·obtain⟨k,h1,h2⟩:=h;exact⟨k,h1,h2⟩
 ·unfold QL at h ⊢;have hlen:(acX C lo FB R0 g n cap b nn lb lcap vals w0).length=14:=rfl;rw[List.getD_eq_getElem?_getD,List.getElem?_eq_none (by omega)]
  trivial
theorem drawOp (C lo FB R0 g n cap b nn lb lcap:Nat)(vals:Int)(w0:World)(G:Nat)(B:List Bk)(x:Bk)(D:DSt w0 C lo G B)(gs:jE w0 C lo G (sq g 0 B.length cap) B vals)(hBn:B.length=n)(hb:b<n)(hx:B[b]?=some x)(fb:∃fv,w0.heap[FB]?=some (.cells #[sq g 0 n cap,vi vals] 26 fv))(hFC:FB≠C)(rb:∃c fv,w0.heap[R0]?=some (.cells c 26 fv))(hRC:R0≠C)(hlvx:x.lv=sq lb 0 nn lcap)(hlnx:x.ln=nn)(hnn:0<nn)(a0:Act)(hsz:a0.tmps.size=173)(h0:a0.eval (.tmp 0)=.pointer (some (Z C 0)))(h3:a0.eval (.tmp 3)=.pointer (some (Z FB 0)))(h4:a0.eval (.tmp 4)=vi (b:Int))(h5:a0.eval (.tmp 5)=vi (nn:Int))
  (Q:Exit→Act→World→Prop) (hQ:∀(f:Nat→Value) (W':World),(fun W=>kj lo g n cap W∧W.heap[FB]?=w0.heap[FB]?∧W.heap[R0]?=w0.heap[R0]?∧j9 C w0 W∧Below C w0 W∧Cur W C) W'→Q .normal (aaa a0 (List.range' 109 14) f) W') :
  wpAny Tryz.prog .any jI Q 15 (Array.replicate 15 false) a0 w0:=by
 obtain⟨fv,fb⟩:=fb;obtain⟨rc,rv,rb⟩:=rb;have H:FB<w0.heap.size:=(aI fb).1;have h:R0<w0.heap.size:=(aI rb).1;have O:∀w,Cur w C∧Fr C w0 w→w.cell? (Z FB 0)=some (sq g 0 n cap)∧w.cell? (Z FB 1)=some (vi vals):=fun w hS=>⟨(hS.2.cell (x:=(Z FB 0)) H hFC).trans (by simp[World.cell?,fb]),(hS.2.cell (x:=(Z FB 1)) H hFC).trans (by simp[World.cell?,fb])⟩
 obtain⟨g0,cap0,e0,hlog,hgw,hgG,hgc,hgf⟩:=gs.at hx;cases e0
 have I:g≠C:=by have:=D.hC;omega
 have ad:∀k c z,w0.heap[k]?=some (.cells c 26 z)→k≠g:=fun k c z hk e=>by
  obtain⟨c2,hc2⟩:=jo gs.row g rfl;rw[e,hc2] at hk;cases hk
 have M:∀w,Cur w C∧Fr C w0 w→DSt w C lo G B∧jE w C lo G (sq g 0 B.length cap) B vals:=fun w hS=>⟨D.draw hS.2 hS.1,gs.lo D.hG (ju.fr hS.2 D.hC)⟩
 have ac:∀w,Cur w C∧Fr C w0 w→∀j,j<6→∃u,w.cell? (Z g (b*6+j))=some u∧w.frozen? (Z g (b*6+j))=false:=fun w hS j hj=>by
  have h6:x.cells[j]?=some (x.cells[j]'(by simpa [Bk.cells] using hj)):=List.getElem?_eq_getElem _;exact⟨_,(hS.2.cell (x:=(Z g (b*6+j))) hgw I).trans (hgc j _ hj h6),(hS.2.frozen (x:=(Z g (b*6+j))) hgw I).trans (hgf _)⟩
 obtain⟨af,hix,hii,hi24⟩:=gs.ins b x hx;rw[hlvx,hlnx] at hix;have X:lb<w0.heap.size:=k9 hix lb rfl;have J:lo≤lb:=(World.ownsRow.lt hix lb rfl).1;have V:lb≠C:=by have:=D.hC;omega
 have aa:∀w,Cur w C∧Fr C w0 w→w.cell? (Z g (b*6+1))=some (sq lb 0 nn lcap):=fun w hS=>(hS.2.cell (x:=(Z g (b*6+1))) hgw I).trans (hgc 1 _ (by omega) (by rw[←hlvx];rfl))
 refine yJ (N:=14) (s0:=109) (a0:=a0) (S:=fun w=>Cur w C∧Fr C w0 w) (R:=Fr C) (T:=QL C lo FB R0 g n cap b nn lb lcap vals w0) (Post:=fun W=>kj lo g n cap W∧W.heap[FB]?=w0.heap[FB]?∧W.heap[R0]?=w0.heap[R0]?∧j9 C w0 W∧Below C w0 W∧Cur W C)
  rfl (by omega) Zx YD aaJ (aaK C lo FB R0 g n cap b nn lb lcap vals w0 D.hC) ?hop ?hlast ?hQ 15 _ a0 w0 (by simp) ⟨by simp,fun j o ho hj=>?cl,rfl,rfl,fun _ _=>rfl,.inl ⟨by simp,⟨D.cur,Fr.refl _ _⟩,fun j hj L=>?nt⟩⟩
 case cl=>
  have:(Array.replicate 15 false).getD j false=false:=by simp[Array.getD]
  rw[this] at hj;cases hj
 case nt=>
  have:(Array.replicate 15 false).getD j false=false:=by simp[Array.getD]
  rw[this] at L;cases L
 case hQ=>
  intro a w e1 e2 e3 hP;rw[zF e1 e2 e3];exact hQ _ w hP
 case hlast=>
  intro o ho a w es eo hS hT K hK;obtain⟨_,rfl⟩:=aI ho;have ev:∀t:Nat,t<109→a.eval (.tmp t)=a0.eval (.tmp t):=fun t ht=>by
   show a.tmps.getD t undef=a0.tmps.getD t undef;rw[Array.getD_eq_getD_getElem?,Array.getD_eq_getD_getElem?,eo t (.inl ht)]
  obtain⟨z,d0⟩:=hT 11 (by omega);obtain⟨k,hk,d1⟩:=hT 13 (by omega);obtain⟨dw,gw⟩:=M w hS;obtain⟨⟨u,q⟩,r,hpr,hft⟩:=gw.ag0 hBn hx hlvx hlnx hk (f:=0) (by omega) z;refine qF (kV rfl d1 d0 (run_store_int q r z)) (hK _ ⟨hpr,?_,?_,?_,?_,hS.1.below D.hC ((Below.refl lo w).setCell (p:=(Z lb (k*5+0))) J _)⟩)
  ·exact(Below.heap_setCell _ _ _ FB (fun e=>hft FB _ _ ((hS.2.block FB H hFC).trans fb) e)).trans (hS.2.block FB H hFC)
  ·exact(Below.heap_setCell _ _ _ R0 (fun e=>hft R0 _ _ ((hS.2.block R0 h hRC).trans rb) e)).trans (hS.2.block R0 h hRC)
  ·intro R0 rc rv ab rb;have hRC:R0≠C:=by omega
   have h:R0<w0.heap.size:=(aI rb).1;exact((Below.heap_setCell _ _ _ R0 (fun e=>hft R0 _ _ ((hS.2.block R0 h hRC).trans rb) e)).trans (hS.2.block R0 h hRC)).trans rb
  ·exact(hS.2.yL (Nat.le_of_lt D.cur.lt)).trans ((Below.refl C w).setCell (p:=(Z lb (k*5))) (by show C≤lb;have:=D.hC;omega) _)
 case hop=>
  intro j hj o ho a w es eo hS hT K hK;have ev:∀t:Nat,t<109→a.eval (.tmp t)=a0.eval (.tmp t):=fun t ht=>by
   show a.tmps.getD t undef=a0.tmps.getD t undef;rw[Array.getD_eq_getD_getElem?,Array.getD_eq_getD_getElem?,eo t (.inl ht)]
  have U:j=0∨j=1∨j=2∨j=3∨j=4∨j=5∨j=6∨j=7∨j=8∨j=9∨j=10∨j=11∨j=12∨j=13:=by omega
  rcases U with rfl|rfl|rfl|rfl|rfl|rfl|rfl|rfl|rfl|rfl|rfl|rfl|rfl|rfl
  ·obtain⟨_,rfl⟩:=aI ho;exact jQ rfl ((ev 3 (by omega)).trans h3) (jR FB 0 w) (hK _ _ (Fr.refl C w) hS rfl)
  ·obtain⟨_,rfl⟩:=aI ho;have d0:=hT 0 (by omega) (by kernel_rfl);exact qm rfl d0 (jS (O w hS).1) (hK _ _ (Fr.refl C w) hS rfl)
  ·obtain⟨_,rfl⟩:=aI ho;exact wp_move rfl ((ev 4 (by omega)).trans h4) (hK _ _ (Fr.refl C w) hS rfl)
  ·obtain⟨_,rfl⟩:=aI ho;have d0:=hT 1 (by omega) (by kernel_rfl);have d1:=hT 2 (by omega) (by kernel_rfl);exact qK rfl d0 d1 (jN hb w) (hK _ _ (Fr.refl C w) hS rfl)
  ·obtain⟨_,rfl⟩:=aI ho;have d0:=hT 3 (by omega) (by kernel_rfl);exact jQ rfl d0 (yN g (b*6) w) (hK _ _ (Fr.refl C w) hS rfl)
  ·obtain⟨_,rfl⟩:=aI ho;have d0:=hT 4 (by omega) (by kernel_rfl);exact qm rfl d0 (Ju (aa w hS)) (hK _ _ (Fr.refl C w) hS rfl)
  ·obtain⟨_,rfl⟩:=aI ho;exact wp_move rfl ((ev 0 (by omega)).trans h0) (hK _ _ (Fr.refl C w) hS rfl)
  ·obtain⟨_,rfl⟩:=aI ho;exact wp_move rfl ((ev 5 (by omega)).trans h5) (hK _ _ (Fr.refl C w) hS rfl)
  ·obtain⟨_,rfl⟩:=aI ho;have d0:=hT 6 (by omega) (by kernel_rfl);have d1:=hT 7 (by omega) (by kernel_rfl);refine jx (f:=48) (args := #[.pointer (some (Z C 0)),vi (nn:Int)]) (kY rfl d0 d1 (enters_of Tryz.func48 (by kernel_rfl) rfl) _) (jH C _ w hS.1) ?_;rintro e w1 ⟨z,rfl,hz0,hz1,_,hf,hc⟩;have ae:=hz1 (by omega);exact⟨_,rfl,hK _ _ hf ⟨hc,hS.2.trans hf⟩ ⟨z.toNat,by omega,by rw[Int.toNat_of_nonneg hz0]⟩⟩
  ·obtain⟨_,rfl⟩:=aI ho;exact wp_move rfl ((ev 0 (by omega)).trans h0) (hK _ _ (Fr.refl C w) hS rfl)
  ·obtain⟨_,rfl⟩:=aI ho;exact jt (agZ rfl w) (hK _ _ (Fr.xW (Bel.alloc w _)) ⟨hS.1.later (Bel.alloc _ _),hS.2.trans (Fr.xW (Bel.alloc _ _))⟩ ⟨_,rfl,by have:=hS.1.lt;omega,by simp,afB w⟩)
  ·obtain⟨_,rfl⟩:=aI ho;have d0:=hT 9 (by omega) (by kernel_rfl);obtain⟨bb,d1,hbb,hbl,hcs⟩:=hT 10 (by omega) (by kernel_rfl);refine jx (f:=86) (args := #[.pointer (some (Z C 0)),sq bb 0 10 10]) (kY rfl d0 d1 (enters_of Tryz.func86 (by kernel_rfl) rfl) _) (yt C bb [0,1,11,20,21,22,23,24,25,26] 10 w hS.1 hbb rfl (by omega) (by omega) hcs) ?_;rintro e w1 ⟨z,rfl,_,hf,hc⟩;exact⟨_,rfl,hK _ _ hf ⟨hc,hS.2.trans hf⟩ ⟨z,rfl⟩⟩
  ·obtain⟨_,rfl⟩:=aI ho;have d0:=hT 5 (by omega) (by kernel_rfl);obtain⟨k,hk,d1⟩:=hT 8 (by omega) (by kernel_rfl);exact qK rfl d0 d1 (zP hk w) (hK _ _ (Fr.refl C w) hS ⟨k,hk,rfl⟩)
  ·obtain⟨_,rfl⟩:=aI ho;obtain⟨k,hk,d0⟩:=hT 12 (by omega) (by kernel_rfl);exact jQ rfl d0 (aaB lb (k*5) w) (hK _ _ (Fr.refl C w) hS ⟨k,hk,rfl⟩)
theorem KX (G:Nat)(W:World):(Instr.fieldAt 107 (.pointer (some (Z G 0))) 1).run Tryz.prog W=.ok (.pointer (some (Z G 1))) W:=by kernel_rfl
theorem KZ {g n cap:Nat}(hi:0<n)(W:World):(Instr.indexAt 38 (sq g 0 n cap) (vi 0)).run Tryz.prog W=.ok (.pointer (some (Z g 0))) W:=by
 simp[Instr.indexAt,asIntOf,Sem.run_bind,run_underlying Tryz.underlying38,Tryz.sizeOf107,Addr.add];intro h;omega
theorem abM {w:World}{g j:Nat}{v:Value}(h:w.cell? (Z g j)=some v):(Instr.loadAt 105 (.pointer (some (Z g j)))).run Tryz.prog w=.ok v w:=by
 simp[Instr.loadAt,Instr.sureAddr,go_sem,h]
theorem aaL {w:World}{g j:Nat}{u:Value}(h:w.cell? (Z g j)=some u)(hf:w.frozen? (Z g j)=false)(a:Option Addr)(n c:Nat):(Instr.storeAt 105 (.pointer (some (Z g j))) (.slice a n c)).run Tryz.prog w=.ok () (w.setCell (Z g j) (.slice a n c)):=by
 simp[Instr.storeAt,Instr.sureAddr,go_sem,h,hf]
theorem abN {o:Oper}{a:Act}{x:Operand}{v v':Value}{w:World}(ho:o.op=.slice 105 x (some (.const (vi 1))) none none)(hx:a.eval x=v)(h:(Instr.sliceAt 105 v (some (vi 1)) none none).run Tryz.prog w=.ok v' w):(execOp a.eval o).run Tryz.prog w=.ok (.value v') w:=by
 have h0:a.eval (.const (vi 1))=vi 1:=rfl;simp[execOp,ho,hx,h0,h]
theorem ag1 {w:World}{lo al:Nat}{av:Value}(h:xG w lo av al):∃(a:Option Addr) (k c:Nat),(Instr.sliceAt 105 av (some (vi 1)) none none).run Tryz.prog w=.ok (.slice a k c) w∧kL w lo (.slice a k c) k:=by
 obtain⟨⟨a,cap,rfl,h1,h2,h3⟩,h4⟩:=h;obtain⟨b,off,cur,rfl,h5,h6,h7⟩:=h3 h4;have r:(1:Int)≤(al:Int):=by omega
 refine⟨if cap=1 then some (Z b off) else some (Z b (off+2)),al-1,cap-1,?_,?_⟩
 ·simp[Instr.sliceAt,go_sem];omega
 ·refine⟨_,_,rfl,by omega,by omega,fun hp=>⟨b,off+2,cur,?_,h5,h6,fun j hj=>?_⟩⟩
  ·have:cap≠1:=by omega
   simp[this]
  ·obtain⟨z,hz⟩:=h7 (2+j) (by omega);exact⟨z,by rw[Nat.add_assoc];exact hz⟩
theorem jE.setArms {w:World}{C lo G g n cap b pb pn pcap k2 c2:Nat}{a2:Option Addr}{B:List Bk}{x:Bk}{vals:Int}(h:jE w C lo G (sq g 0 B.length cap) B vals)(hBn:B.length=n)(hx:B[b]?=some x)(hpv:x.pv=sq pb 0 pn pcap)(hpn:x.pn=pn)(h0:0<pn)(ha:kL w lo (.slice a2 k2 c2) k2) :
  w.frozen? (Z pb 1)=false∧kj lo g n cap (w.setCell (Z pb 1) (.slice a2 k2 c2))∧∀r c fv,w.heap[r]?=some (.cells c 26 fv)→r≠pb:=by
 obtain⟨xs,hxs,hph,h4n⟩:=h.phi b x hx;rw[hpv,hpn] at hxs;have L:=hxs.1;rcases hxs.2 with ⟨e,_⟩ | ⟨g',cap',cur,e,hlo,hg,h1,h2,h3,h4⟩
 ·cases e
 ·cases e
  have I:1<cur.size:=by omega
  have t:=qX w pb 1 (.slice a2 k2 c2);have H:∀{e:TypeId},107≠e→qQ w (some pb) e:=fun he r hr=>by cases hr;exact⟨_,_,_,hg,he⟩
  refine⟨by simp[World.frozen?,hg],⟨B,hBn,?_,fun i y hy=>?_,fun i y hy=>?_⟩,fun r c fv hr e=>?_⟩
  ·rw[←hBn];exact j8 h.row t (H (by decide))
  ·exact(h.ins i y hy).other t (H (by decide))
  ·by_cases e:i=b
   ·subst e;rw[hx] at hy;cases hy
    refine⟨xs.set 1 (.slice a2 k2 c2),?_,fun j hj=>?_⟩
    ·rw[hpv,hpn];refine⟨by rw[List.length_set];exact L,.inr ⟨pb,pcap,cur.setIfInBounds 1 (.slice a2 k2 c2),rfl,hlo,?_,h1,h2,by simpa using h3,?_⟩⟩
     ·obtain⟨K,hkk⟩:=aI hg;show(w.heap.modify pb _)[pb]?=_;rw[Array.getElem?_eq_getElem (by rw[Array.size_modify];exact K),Array.getElem_modify_self,hkk]
      rfl
     ·rw[←h4]
      apply List.ext_getElem?
      intro m;simp only[Array.toList_setIfInBounds,List.getElem?_take,List.getElem?_set];by_cases hm:m<pn*2
      ·simp only[hm,if_true];by_cases e:1=m
       ·subst e;simp[I];omega
       ·simp[e]
      ·simp[hm];omega
    ·obtain⟨d,av,al,e1,e2,e3⟩:=hph j hj;by_cases J:j=0
     ·subst J
      exact⟨d,.slice a2 k2 c2,k2,by simpa using e1,by
       have:1<xs.length:=by omega
       simp[this],ha.other t (H (by decide))⟩
     ·exact⟨d,av,al,by rw[List.getElem?_set_ne (by omega)];exact e1,by rw[List.getElem?_set_ne (by omega)];exact e2,e3.1.other t (H (by decide))⟩
   ·exact((h.phi i y hy).apart t (fun r hr=>by
     cases hr
     intro e2
     exact h.apP b i x y (fun e3=>e e3.symm) hx hy pb (by rw[hpv];rfl) e2) (H (by decide))).weak
  ·rw[e,hg] at hr;cases hr
noncomputable def jw:Array Oper:=rF Tryz.f64 22
def Zy (C lo FB R0 g n cap b nn pb pn pcap:Nat)(av:Value)(vals:Int)(w0:World):List (Value→World→Prop) := [(fun v w=>v=.pointer (some (Z FB 0))),(fun v w=>v=sq g 0 n cap),(fun v w=>v=vi (b:Int)),(fun v w=>v=.pointer (some (Z g (b*6)))),(fun v w=>v=.pointer (some (Z g (b*6)))),(fun v w=>v=sq pb 0 pn pcap),(fun v w=>v=.pointer (some (Z FB 0))),(fun v w=>v=sq g 0 n cap),(fun v w=>v=vi (b:Int)),(fun v w=>v=.pointer (some (Z g (b*6)))),(fun v w=>v=.pointer (some (Z g (b*6)))),(fun v w=>v=sq pb 0 pn pcap),(fun v w=>v=.pointer (some (Z pb 0))),(fun v w=>v=.pointer (some (Z pb 1))),(fun v w=>v=av),(fun v w=>∃(a:Option Addr) (k c:Nat),v=.slice a k c∧kL w lo (.slice a k c) k),(fun v w=>v=.pointer (some (Z pb 0))),(fun v w=>v=.pointer (some (Z pb 1)))]
def Jw (C lo FB R0 g n cap b nn pb pn pcap:Nat)(av:Value)(vals:Int)(w0:World)(j:Nat)(v:Value)(w:World):Prop:=((Zy C lo FB R0 g n cap b nn pb pn pcap av vals w0).getD j (fun _ _=>True)) v w
theorem XI : ∀(i:Nat) (o:Oper),jw[i]?=some o→∀e∈o.after,e.on<i:=by
 have h:(List.range 19).all (fun i=>match jw[i]? with | some o=>o.after.all (fun e=>decide (e.on<i)) | none=>true)=true:=by kernel_rfl
 intro i o ho e he;have hi:i<19:=(aI ho).1;have:=List.all_eq_true.1 h i (List.mem_range.2 hi);rw[ho] at this;simp only[Array.all_eq_true'] at this;simpa using this e he
theorem QM : ∀(i:Nat) (o:Oper),jw[i]?=some o→o.guard=none:=by
 have h:(List.range 19).all (fun i=>match jw[i]? with | some o=>o.guard.isNone | none=>true)=true:=by kernel_rfl
 intro i o ho;have hi:i<19:=(aI ho).1;have:=List.all_eq_true.1 h i (List.mem_range.2 hi);rw[ho] at this;simpa using this
theorem YE : ∀li:Array Bool,zD .any jw li→(∀o,jw[18]?=some o→∀e∈o.after,Region.binds .any e=true→li.getD e.on false=true)→∀j,j<18→li.getD j false=true:=by
 intro li hc hl;have hlast:∀i,jb .any jw 18 i=true→li.getD i false=true:=fun i hi=>by
  obtain⟨e,he,hb,h2⟩:=jD hi (Array.getElem?_eq_getElem (by decide:18<jw.size));rw[←h2];exact hl _ (Array.getElem?_eq_getElem (by decide:18<jw.size)) e he hb
 have r:∀j i,j<18→li.getD j false=true→jb .any jw j i=true→li.getD i false=true:=fun j i hj H hi=>by
  have G:j<jw.size:=by show j<19;omega
  obtain⟨e,he,hb,h2⟩:=jD hi (Array.getElem?_eq_getElem G);rw[←h2];exact hc j _ (Array.getElem?_eq_getElem G) H e he hb
 have B:∀i,i<18→(jb .any jw 18 i=true∨(∃k,k<18∧jb .any jw 18 k=true∧jb .any jw k i=true)∨∃k m,k<18∧m<18∧jb .any jw 18 m=true∧jb .any jw m k=true∧jb .any jw k i=true):=by
  have t:(List.range 18).all (fun i=>jb .any jw 18 i || (List.range 18).any (fun k=>jb .any jw 18 k && jb .any jw k i) || (List.range 18).any (fun k=>(List.range 18).any (fun m=>jb .any jw 18 m && (jb .any jw m k && jb .any jw k i))))=true:=by kernel_rfl
  intro i hi;have:=List.all_eq_true.1 t i (List.mem_range.2 hi);simp only[Bool.or_eq_true,List.any_eq_true,List.mem_range,Bool.and_eq_true] at this;rcases this with (h | ⟨k,hk,h1,h2⟩) | ⟨k,hk,m,hm,h1,h2,h3⟩
  ·exact .inl h
  ·exact .inr (.inl ⟨k,hk,h1,h2⟩)
  ·exact .inr (.inr ⟨k,m,hk,hm,h1,h2,h3⟩)
 intro j hj;rcases B j hj with h | ⟨k,hk,h1,h2⟩ | ⟨k,m,hk,hm,h1,h2,h3⟩
 ·exact hlast j h
 ·exact r k j hk (hlast k h1) h2
 ·exact r k j hk (r m k hm (hlast m h1) h2) h3
theorem YF (C lo FB R0 g n cap b nn pb pn pcap:Nat)(av:Value)(vals:Int)(w0:World)(hC:C<lo):∀j v w w',Jw C lo FB R0 g n cap b nn pb pn pcap av vals w0 j v w→Fr C w w'→Jw C lo FB R0 g n cap b nn pb pn pcap av vals w0 j v w':=by
 intro j v w w' h hf;have hk:=ju.fr hf hC;by_cases hj:j<18
 ·have r:j=0∨j=1∨j=2∨j=3∨j=4∨j=5∨j=6∨j=7∨j=8∨j=9∨j=10∨j=11∨j=12∨j=13∨j=14∨j=15∨j=16∨j=17:=by omega
  rcases r with rfl|rfl|rfl|rfl|rfl|rfl|rfl|rfl|rfl|rfl|rfl|rfl|rfl|rfl|rfl|rfl|rfl|rfl
  ·exact h
  ·exact h
  ·exact h
  ·exact h
  ·exact h
  ·exact h
  ·exact h
  ·exact h
  ·exact h
  ·exact h
  ·exact h
  ·exact h
  ·exact h
  ·exact h
  ·exact h
  ·obtain⟨a,k,c,h1,h2⟩:=h;exact⟨a,k,c,h1,h2.lo hk⟩
  ·exact h
  ·exact h
 ·unfold Jw at h ⊢;have hlen:(Zy C lo FB R0 g n cap b nn pb pn pcap av vals w0).length=18:=rfl;rw[List.getD_eq_getElem?_getD,List.getElem?_eq_none (by omega)]
  trivial
theorem drawArms (C lo FB R0 g n cap b nn pb pn pcap:Nat)(av:Value)(vals:Int)(w0:World)(G:Nat)(B:List Bk)(x:Bk)(D:DSt w0 C lo G B)(gs:jE w0 C lo G (sq g 0 B.length cap) B vals)(hBn:B.length=n)(hb:b<n)(hx:B[b]?=some x)(fb:∃fv,w0.heap[FB]?=some (.cells #[sq g 0 n cap,vi vals] 26 fv))(hFC:FB≠C)(rb:∃c fv,w0.heap[R0]?=some (.cells c 26 fv))(hRC:R0≠C)(al:Nat)(hpvx:x.pv=sq pb 0 pn pcap)(hpnx:x.pn=pn)(hpn:0<pn)(pxs:List Value)(hpo:w0.ownsRow lo 107 2 (sq pb 0 pn pcap) pn pxs)(hpa:pxs[1]?=some av)(hal0:xG w0 lo av al)(a0:Act)(hsz:a0.tmps.size=173)(h0:a0.eval (.tmp 0)=.pointer (some (Z C 0)))(h3:a0.eval (.tmp 3)=.pointer (some (Z FB 0)))(h4:a0.eval (.tmp 4)=vi (b:Int))(h5:a0.eval (.tmp 5)=vi (nn:Int))
  (Q:Exit→Act→World→Prop) (hQ:∀(f:Nat→Value) (W':World),(fun W=>kj lo g n cap W∧W.heap[FB]?=w0.heap[FB]?∧W.heap[R0]?=w0.heap[R0]?∧j9 C w0 W∧Below C w0 W∧Cur W C) W'→Q .normal (aaa a0 (List.range' 133 18) f) W') :
  wpAny Tryz.prog .any jw Q 19 (Array.replicate 19 false) a0 w0:=by
 obtain⟨fv,fb⟩:=fb;obtain⟨rc,rv,rb⟩:=rb;have I:FB<w0.heap.size:=(aI fb).1;have h:R0<w0.heap.size:=(aI rb).1;have U:∀w,Cur w C∧Fr C w0 w→w.cell? (Z FB 0)=some (sq g 0 n cap)∧w.cell? (Z FB 1)=some (vi vals):=fun w hS=>⟨(hS.2.cell (x:=(Z FB 0)) I hFC).trans (by simp[World.cell?,fb]),(hS.2.cell (x:=(Z FB 1)) I hFC).trans (by simp[World.cell?,fb])⟩
 obtain⟨g0,cap0,e0,hlog,hgw,hgG,hgc,hgf⟩:=gs.at hx;cases e0
 have J:g≠C:=by have:=D.hC;omega
 have ag:∀k c z,w0.heap[k]?=some (.cells c 26 z)→k≠g:=fun k c z hk e=>by
  obtain⟨c2,hc2⟩:=jo gs.row g rfl;rw[e,hc2] at hk;cases hk
 have X:∀w,Cur w C∧Fr C w0 w→DSt w C lo G B∧jE w C lo G (sq g 0 B.length cap) B vals:=fun w hS=>⟨D.draw hS.2 hS.1,gs.lo D.hG (ju.fr hS.2 D.hC)⟩
 have af:∀w,Cur w C∧Fr C w0 w→∀j,j<6→∃u,w.cell? (Z g (b*6+j))=some u∧w.frozen? (Z g (b*6+j))=false:=fun w hS j hj=>by
  have h6:x.cells[j]?=some (x.cells[j]'(by simpa [Bk.cells] using hj)):=List.getElem?_eq_getElem _;exact⟨_,(hS.2.cell (x:=(Z g (b*6+j))) hgw J).trans (hgc j _ hj h6),(hS.2.frozen (x:=(Z g (b*6+j))) hgw J).trans (hgf _)⟩
 have ad:pb<w0.heap.size:=k9 hpo pb rfl;have L:lo≤pb:=(World.ownsRow.lt hpo pb rfl).1;have ac:pb≠C:=by have:=D.hC;omega
 have H:∀w,Cur w C∧Fr C w0 w→w.cell? (Z g (b*6))=some (sq pb 0 pn pcap):=fun w hS=>(hS.2.cell (x:=(Z g (b*6))) hgw J).trans (hgc 0 _ (by omega) (by rw[←hpvx];rfl))
 have M:∀w,Cur w C∧Fr C w0 w→w.ownsRow lo 107 2 (sq pb 0 pn pcap) pn pxs:=fun w hS=>jq hpo (ju.fr hS.2 D.hC)
 have O:∀w,Cur w C∧Fr C w0 w→w.cell? (Z pb 1)=some av:=fun w hS=>by
  obtain⟨a,c,e,_,hc⟩:=Jq (M w hS);obtain⟨g2,e2,hc2⟩:=hc hpn;cases e
  cases e2
  rw[hc2 1 (by omega)];exact hpa
 have aa:∀w,Cur w C∧Fr C w0 w→xG w lo av al:=fun w hS=>hal0.lo (ju.fr hS.2 D.hC)
 refine yJ (N:=18) (s0:=133) (a0:=a0) (S:=fun w=>Cur w C∧Fr C w0 w) (R:=Fr C) (T:=Jw C lo FB R0 g n cap b nn pb pn pcap av vals w0) (Post:=fun W=>kj lo g n cap W∧W.heap[FB]?=w0.heap[FB]?∧W.heap[R0]?=w0.heap[R0]?∧j9 C w0 W∧Below C w0 W∧Cur W C)
  rfl (by omega) XI QM YE (YF C lo FB R0 g n cap b nn pb pn pcap av vals w0 D.hC) ?hop ?hlast ?hQ 19 _ a0 w0 (by simp) ⟨by simp,fun j o ho hj=>?cl,rfl,rfl,fun _ _=>rfl,.inl ⟨by simp,⟨D.cur,Fr.refl _ _⟩,fun j hj V=>?nt⟩⟩
 case cl=>
  have:(Array.replicate 19 false).getD j false=false:=by simp[Array.getD]
  rw[this] at hj;cases hj
 case nt=>
  have:(Array.replicate 19 false).getD j false=false:=by simp[Array.getD]
  rw[this] at V;cases V
 case hQ=>
  intro a w e1 e2 e3 hP;rw[zF e1 e2 e3];exact hQ _ w hP
 case hlast=>
  intro o ho a w es eo hS hT K hK;obtain⟨_,rfl⟩:=aI ho;have ev:∀t:Nat,t<133→a.eval (.tmp t)=a0.eval (.tmp t):=fun t ht=>by
   show a.tmps.getD t undef=a0.tmps.getD t undef;rw[Array.getD_eq_getD_getElem?,Array.getD_eq_getD_getElem?,eo t (.inl ht)]
  obtain⟨a2,k2,c2,d0,ha2⟩:=hT 15 (by omega);have d1:=hT 17 (by omega);obtain⟨dw,gw⟩:=X w hS;obtain⟨r,hpr,hft⟩:=gw.setArms hBn hx hpvx hpnx hpn ha2;refine qF (kV rfl d1 d0 (aaL (O w hS) r _ _ _)) (hK _ ⟨hpr,?_,?_,?_,?_,hS.1.below D.hC ((Below.refl lo w).setCell (p:=(Z pb 1)) L _)⟩)
  ·exact(Below.heap_setCell _ _ _ FB (fun e=>hft FB _ _ ((hS.2.block FB I hFC).trans fb) e)).trans (hS.2.block FB I hFC)
  ·exact(Below.heap_setCell _ _ _ R0 (fun e=>hft R0 _ _ ((hS.2.block R0 h hRC).trans rb) e)).trans (hS.2.block R0 h hRC)
  ·intro R0 rc rv ae rb;have hRC:R0≠C:=by omega
   have h:R0<w0.heap.size:=(aI rb).1;exact((Below.heap_setCell _ _ _ R0 (fun e=>hft R0 _ _ ((hS.2.block R0 h hRC).trans rb) e)).trans (hS.2.block R0 h hRC)).trans rb
  ·exact(hS.2.yL (Nat.le_of_lt D.cur.lt)).trans ((Below.refl C w).setCell (p:=(Z pb 1)) (by show C≤pb;have:=D.hC;omega) _)
 case hop=>
  intro j hj o ho a w es eo hS hT K hK;have ev:∀t:Nat,t<133→a.eval (.tmp t)=a0.eval (.tmp t):=fun t ht=>by
   show a.tmps.getD t undef=a0.tmps.getD t undef;rw[Array.getD_eq_getD_getElem?,Array.getD_eq_getD_getElem?,eo t (.inl ht)]
  have ab:j=0∨j=1∨j=2∨j=3∨j=4∨j=5∨j=6∨j=7∨j=8∨j=9∨j=10∨j=11∨j=12∨j=13∨j=14∨j=15∨j=16∨j=17:=by omega
  rcases ab with rfl|rfl|rfl|rfl|rfl|rfl|rfl|rfl|rfl|rfl|rfl|rfl|rfl|rfl|rfl|rfl|rfl|rfl
  ·obtain⟨_,rfl⟩:=aI ho;exact jQ rfl ((ev 3 (by omega)).trans h3) (jR FB 0 w) (hK _ _ (Fr.refl C w) hS rfl)
  ·obtain⟨_,rfl⟩:=aI ho;have d0:=hT 0 (by omega) (by kernel_rfl);exact qm rfl d0 (jS (U w hS).1) (hK _ _ (Fr.refl C w) hS rfl)
  ·obtain⟨_,rfl⟩:=aI ho;exact wp_move rfl ((ev 4 (by omega)).trans h4) (hK _ _ (Fr.refl C w) hS rfl)
  ·obtain⟨_,rfl⟩:=aI ho;have d0:=hT 1 (by omega) (by kernel_rfl);have d1:=hT 2 (by omega) (by kernel_rfl);exact qK rfl d0 d1 (jN hb w) (hK _ _ (Fr.refl C w) hS rfl)
  ·obtain⟨_,rfl⟩:=aI ho;have d0:=hT 3 (by omega) (by kernel_rfl);exact jQ rfl d0 (kP g (b*6) w) (hK _ _ (Fr.refl C w) hS rfl)
  ·obtain⟨_,rfl⟩:=aI ho;have d0:=hT 4 (by omega) (by kernel_rfl);exact qm rfl d0 (yY (H w hS)) (hK _ _ (Fr.refl C w) hS rfl)
  ·obtain⟨_,rfl⟩:=aI ho;exact jQ rfl ((ev 3 (by omega)).trans h3) (jR FB 0 w) (hK _ _ (Fr.refl C w) hS rfl)
  ·obtain⟨_,rfl⟩:=aI ho;have d0:=hT 6 (by omega) (by kernel_rfl);exact qm rfl d0 (jS (U w hS).1) (hK _ _ (Fr.refl C w) hS rfl)
  ·obtain⟨_,rfl⟩:=aI ho;exact wp_move rfl ((ev 4 (by omega)).trans h4) (hK _ _ (Fr.refl C w) hS rfl)
  ·obtain⟨_,rfl⟩:=aI ho;have d0:=hT 7 (by omega) (by kernel_rfl);have d1:=hT 8 (by omega) (by kernel_rfl);exact qK rfl d0 d1 (jN hb w) (hK _ _ (Fr.refl C w) hS rfl)
  ·obtain⟨_,rfl⟩:=aI ho;have d0:=hT 9 (by omega) (by kernel_rfl);exact jQ rfl d0 (kP g (b*6) w) (hK _ _ (Fr.refl C w) hS rfl)
  ·obtain⟨_,rfl⟩:=aI ho;have d0:=hT 10 (by omega) (by kernel_rfl);exact qm rfl d0 (yY (H w hS)) (hK _ _ (Fr.refl C w) hS rfl)
  ·obtain⟨_,rfl⟩:=aI ho;have d0:=hT 11 (by omega) (by kernel_rfl);exact qK rfl d0 rfl (KZ hpn w) (hK _ _ (Fr.refl C w) hS rfl)
  ·obtain⟨_,rfl⟩:=aI ho;have d0:=hT 12 (by omega) (by kernel_rfl);exact jQ rfl d0 (KX pb w) (hK _ _ (Fr.refl C w) hS rfl)
  ·obtain⟨_,rfl⟩:=aI ho;have d0:=hT 13 (by omega) (by kernel_rfl);exact qm rfl d0 (abM (O w hS)) (hK _ _ (Fr.refl C w) hS rfl)
  ·obtain⟨_,rfl⟩:=aI ho;have d0:=hT 14 (by omega) (by kernel_rfl);obtain⟨a2,k2,c2,hs2,ha2⟩:=ag1 (aa w hS);exact jt (abN rfl d0 hs2) (hK _ _ (Fr.refl C w) hS ⟨a2,k2,c2,rfl,ha2⟩)
  ·obtain⟨_,rfl⟩:=aI ho;have d0:=hT 5 (by omega) (by kernel_rfl);exact qK rfl d0 rfl (KZ hpn w) (hK _ _ (Fr.refl C w) hS rfl)
  ·obtain⟨_,rfl⟩:=aI ho;have d0:=hT 16 (by omega) (by kernel_rfl);exact jQ rfl d0 (KX pb w) (hK _ _ (Fr.refl C w) hS rfl)
theorem Jr.other {w w':World}{row:Option Nat}{lo:Nat}{v:Value}{n:Nat}(h:Jr w lo v n)(hg:w.grownBy w' row)(ho:qQ w row 107)(ha:qQ w row 143):Jr w' lo v n:=by
 obtain⟨xs,h1,h2⟩:=h;refine⟨xs,j8 h1 hg ho,fun i hi=>?_⟩;obtain⟨d,av,al,e1,e2,e3⟩:=h2 i hi;exact⟨d,av,al,e1,e2,e3.other hg ha⟩
theorem Zo.prog {w:World}{C lo G g cap n:Nat}{bs:List Bk}{vals:Int}{i:Nat}(h:Zo i w C lo G (sq g 0 bs.length cap) bs vals){j:Nat}{b b':Bk}{u:Value}(hb:bs[i]?=some b)(hj:j<6)(hc:b'.cells=b.cells.set j u)
  (hi:ym w lo b'.lv b'.ln) (hp:Jr w lo b'.pv b'.pn) (hn:bs.length=n):kj lo g n cap (w.setCell (Z g (i*6+j)) u):=by
 have st:=World.ownsRow.stored h.row (i*6+j) u;have oB:∀{e:TypeId},43≠e→qQ w (some g) e:=fun he=>by
  have:=qQ.of h.row he;simpa [Value.ownBlock] using this
 have t:i<bs.length:=(List.getElem?_eq_some_iff.1 hb).1;have r:∀m y,(bs.set i b')[m]?=some y→(m=i∧y=b')∨(m≠i∧bs[m]?=some y):=fun m y hy=>by
  by_cases e:m=i
  ·subst e;rw[List.getElem?_set_self t] at hy;cases hy
   exact .inl ⟨rfl,rfl⟩
  ·rw[List.getElem?_set_ne (fun h=>e h.symm)] at hy;exact .inr ⟨e,hy⟩
 refine⟨bs.set i b',by rw[List.length_set];exact hn,?_,fun m y hy=>?_,fun m y hy=>?_⟩
 ·rw[←hn,←Zn bs i j b b' u hb hj hc];exact st.1
 ·rcases r m y hy with ⟨rfl,rfl⟩ | ⟨hm,hy⟩
  ·exact hi.other st.2 (oB (by decide))
  ·exact(h.ins m y hm hy).other st.2 (oB (by decide))
 ·rcases r m y hy with ⟨rfl,rfl⟩ | ⟨hm,hy⟩
  ·exact hp.other st.2 (oB (by decide)) (oB (by decide))
  ·exact(h.phi m y hm hy).weak.other st.2 (oB (by decide)) (oB (by decide))
theorem abO {P:Program}{ops:Array Oper}{S:World→Prop}{o:Oper}{a:Act}{v:Value}{x:Operand}{t:TypeId}(hg:o.guard=none)(ho:o.op=.build t #[(0,x)]){p:Value}(hx:a.eval x=p)(hl:∀W,(Instr.build t #[(0,p)]).run P W=.ok v W):YieldsIf P ops S o v a :=
 .inl ⟨by simp[Region.wanted,hg],fun W _=>by simp[execOp,ho,hx,hl W]⟩
theorem aaM (x:Int)(W:World):(Instr.build 107 #[(0,vi x)]).run Tryz.prog W=.ok (.agg #[vi x,.slice none 0 0]) W:=by kernel_rfl
def SomeInt (w:World)(e:Ending)(w':World):Prop := ∃z:Int,e=.returned (vi z)∧w'=w
theorem max_any (x y:Int)(w:World):Calls Tryz.prog 54 #[vi x,vi y] w fun e w'=>SomeInt w e w':=by
 by_cases h:y<x
 ·go_enter Tryz.func54,Tryz.ntmps54
  go_wp2;go_ret;exact⟨_,rfl,rfl⟩
 ·go_enter Tryz.func54,Tryz.ntmps54
  go_wp2;go_ret;exact⟨_,rfl,rfl⟩
noncomputable def jM:Array Oper:=rF Tryz.f64 24
theorem drawPhi (C lo FB R0 g n cap b pn lcap:Nat)(la:Option Addr)(vals:Int)(w:World)(G:Nat)(B:List Bk)(x:Bk)(D:DSt w C lo G B)(gs:jE w C lo G (sq g 0 B.length cap) B vals)(hBn:B.length=n)(hb:b<n)(hx:B[b]?=some x)(fb:∃fv,w.heap[FB]?=some (.cells #[sq g 0 n cap,vi vals] 26 fv))(hFC:FB≠C)(rb:∃c fv,w.heap[R0]?=some (.cells c 26 fv))(hRC:R0≠C)(hpv:x.pv=.slice la pn lcap)(hpn:x.pn=pn)
  (a:Act) (hsz:a.tmps.size=173) (h0:a.eval (.tmp 0)=.pointer (some (Z C 0))) (h3:a.eval (.tmp 3)=.pointer (some (Z FB 0))) (h4:a.eval (.tmp 4)=vi (b:Int))
  (Q:Exit→Act→World→Prop) (hQp:∀c a w,¬Q (.panic c) a w)
  (hQ:∀(yz8 yz9:Int) (Ph v':Value) (W':World),(kj lo g n cap W'∧W'.heap[FB]?=w.heap[FB]?∧W'.heap[R0]?=w.heap[R0]?∧j9 C w W'∧Below C w W'∧Cur W' C)→Q .normal (((((((((((((((((((a.put (some 153) (.pointer (some (Z FB 0)))).put (some 154) (sq g 0 n cap)).put (some 155) (vi (b:Int))).put (some 156) (.pointer (some (Z FB 0)))).put (some 157) (sq g 0 n cap)).put (some 158) (vi (b:Int))).put (some 159) (.pointer (some (Z g (b*6))))).put (some 160) (.pointer (some (Z g (b*6))))).put (some 161) (.slice la pn lcap)).put (some 162) (.pointer (some (Z C 0)))).put (some 163) (.pointer (some (Z FB 1)))).put (some 164) (vi vals)).put (some 165) (vi yz8)).put (some 166) (vi yz9)).put (some 167) (.agg #[vi yz9,.slice none 0 0])).put (some 168) (Ph)).put (some 169) (v')).put (some 170) (.pointer (some (Z g (b*6))))).put (some 171) (.pointer (some (Z g (b*6))))) W') :
  xQ Tryz.prog .any jM Q 19 (fun W=>W.cell? (Z FB 0)=some (sq g 0 n cap)∧W.cell? (Z FB 1)=some (vi vals)∧W.cell? (Z g (b*6))=some (.slice la pn lcap)) 20 (Array.replicate 20 false) a w:=by
 have hp:∀(o:Option Tmp) (v:Value) c a w,Q (.panic c) (a.put o v) w→Q (.panic c) a w:=fun o v c a w h=>absurd h (hQp _ _ _)
 obtain⟨fv,fb⟩:=fb;obtain⟨rc,rv,rb⟩:=rb;have af:FB<w.heap.size:=(aI fb).1;have V:R0<w.heap.size:=(aI rb).1;obtain⟨g0,cap0,e0,hlog,hgw,hgG,hgc,hgf⟩:=gs.at hx;cases e0
 have aO:g≠C:=by have:=D.hC;omega
 have ag:∀k c z,w.heap[k]?=some (.cells c 26 z)→k≠g:=fun k c z hk e=>by
  obtain⟨c2,hc2⟩:=jo gs.row g rfl;rw[e,hc2] at hk;cases hk
 have hS:w.cell? (Z FB 0)=some (sq g 0 n cap)∧w.cell? (Z FB 1)=some (vi vals)∧w.cell? (Z g (b*6))=some (.slice la pn lcap):=⟨by simp[World.cell?,fb],by simp[World.cell?,fb],hgc 0 _ (by omega) (by rw[←hpv];rfl)⟩;have s0:=((((Sl.nil hsz).add h0).add h3).add h4);refine jk (i:=0) (v:=.pointer (some (Z FB 0))) rfl (by kernel_rfl) (by kernel_rfl) (by kernel_rfl) (by kernel_rfl) (hp _ _) (qd rfl rfl h3 (jR FB 0)) hS ?_;obtain⟨a1,e1⟩:∃x,a.put jM[0].dst (.pointer (some (Z FB 0)))=x:=⟨_,rfl⟩;have s1:=s0.put 153 (.pointer (some (Z FB 0))) e1 rfl (by decide);rw[e1];have E1:Hid (a1=a.put (some 153) (.pointer (some (Z FB 0)))):=e1.symm;clear e1 hsz h0 h3 h4 s0;refine jk (i:=1) (v:=sq g 0 n cap) rfl (by kernel_rfl) (by kernel_rfl) (by kernel_rfl) (by kernel_rfl) (hp _ _) (xJ rfl rfl (s1.at 0 rfl) (fun W hW=>jS hW.1)) hS ?_;obtain⟨a2,e2⟩:∃x,a1.put jM[1].dst (sq g 0 n cap)=x:=⟨_,rfl⟩;have s2:=s1.put 154 (sq g 0 n cap) e2 rfl (by decide);rw[e2];have E2:Hid (a2=a1.put (some 154) (sq g 0 n cap)):=e2.symm;clear e2 s1;refine jk (i:=2) (v:=vi (b:Int)) rfl (by kernel_rfl) (by kernel_rfl) (by kernel_rfl) (by kernel_rfl) (hp _ _) (ku rfl rfl (s2.at 2 rfl)) hS ?_;obtain⟨a3,e3⟩:∃x,a2.put jM[2].dst (vi (b:Int))=x:=⟨_,rfl⟩;have s3:=s2.put 155 (vi (b:Int)) e3 rfl (by decide);rw[e3];have E3:Hid (a3=a2.put (some 155) (vi (b:Int))):=e3.symm;clear e3 s2;refine jk (i:=3) (v:=.pointer (some (Z FB 0))) rfl (by kernel_rfl) (by kernel_rfl) (by kernel_rfl) (by kernel_rfl) (hp _ _) (qd rfl rfl (s3.at 4 rfl) (jR FB 0)) hS ?_;obtain⟨a4,e4⟩:∃x,a3.put jM[3].dst (.pointer (some (Z FB 0)))=x:=⟨_,rfl⟩;have s4:=s3.put 156 (.pointer (some (Z FB 0))) e4 rfl (by decide);rw[e4];have E4:Hid (a4=a3.put (some 156) (.pointer (some (Z FB 0)))):=e4.symm;clear e4 s3;refine jk (i:=4) (v:=sq g 0 n cap) rfl (by kernel_rfl) (by kernel_rfl) (by kernel_rfl) (by kernel_rfl) (hp _ _) (xJ rfl rfl (s4.at 0 rfl) (fun W hW=>jS hW.1)) hS ?_;obtain⟨a5,e5⟩:∃x,a4.put jM[4].dst (sq g 0 n cap)=x:=⟨_,rfl⟩;have s5:=s4.put 157 (sq g 0 n cap) e5 rfl (by decide);rw[e5];have E5:Hid (a5=a4.put (some 157) (sq g 0 n cap)):=e5.symm;clear e5 s4;refine jk (i:=5) (v:=vi (b:Int)) rfl (by kernel_rfl) (by kernel_rfl) (by kernel_rfl) (by kernel_rfl) (hp _ _) (ku rfl rfl (s5.at 5 rfl)) hS ?_;obtain⟨a6,e6⟩:∃x,a5.put jM[5].dst (vi (b:Int))=x:=⟨_,rfl⟩;have s6:=s5.put 158 (vi (b:Int)) e6 rfl (by decide);rw[e6];have E6:Hid (a6=a5.put (some 158) (vi (b:Int))):=e6.symm;clear e6 s5;refine jk (i:=6) (v:=.pointer (some (Z g (b*6)))) rfl (by kernel_rfl) (by kernel_rfl) (by kernel_rfl) (by kernel_rfl) (hp _ _) (Yv rfl rfl (s6.at 1 rfl) (s6.at 0 rfl) (fun W _=>jN hb W)) hS ?_;obtain⟨a7,e7⟩:∃x,a6.put jM[6].dst (.pointer (some (Z g (b*6))))=x:=⟨_,rfl⟩;have s7:=s6.put 159 (.pointer (some (Z g (b*6)))) e7 rfl (by decide);rw[e7];have E7:Hid (a7=a6.put (some 159) (.pointer (some (Z g (b*6))))):=e7.symm;clear e7 s6;refine jk (i:=7) (v:=.pointer (some (Z g (b*6)))) rfl (by kernel_rfl) (by kernel_rfl) (by kernel_rfl) (by kernel_rfl) (hp _ _) (qd rfl rfl (s7.at 0 rfl) (kP g (b*6))) hS ?_;obtain⟨a8,e8⟩:∃x,a7.put jM[7].dst (.pointer (some (Z g (b*6))))=x:=⟨_,rfl⟩;have s8:=s7.put 160 (.pointer (some (Z g (b*6)))) e8 rfl (by decide);rw[e8];have E8:Hid (a8=a7.put (some 160) (.pointer (some (Z g (b*6))))):=e8.symm;clear e8 s7;refine jk (i:=8) (v:=.slice la pn lcap) rfl (by kernel_rfl) (by kernel_rfl) (by kernel_rfl) (by kernel_rfl) (hp _ _) (xJ rfl rfl (s8.at 0 rfl) (fun W hW=>yY hW.2.2)) hS ?_;obtain⟨a9,e9⟩:∃x,a8.put jM[8].dst (.slice la pn lcap)=x:=⟨_,rfl⟩;have s9:=s8.put 161 (.slice la pn lcap) e9 rfl (by decide);rw[e9];have E9:Hid (a9=a8.put (some 161) (.slice la pn lcap)):=e9.symm;clear e9 s8;refine jk (i:=9) (v:=.pointer (some (Z C 0))) rfl (by kernel_rfl) (by kernel_rfl) (by kernel_rfl) (by kernel_rfl) (hp _ _) (ku rfl rfl (s9.at 11 rfl)) hS ?_;obtain⟨ak,e10⟩:∃x,a9.put jM[9].dst (.pointer (some (Z C 0)))=x:=⟨_,rfl⟩;have aE:=s9.put 162 (.pointer (some (Z C 0))) e10 rfl (by decide);rw[e10];have aR:Hid (ak=a9.put (some 162) (.pointer (some (Z C 0)))):=e10.symm;clear e10 s9;refine jk (i:=10) (v:=.pointer (some (Z FB 1))) rfl (by kernel_rfl) (by kernel_rfl) (by kernel_rfl) (by kernel_rfl) (hp _ _) (qd rfl rfl (aE.at 11 rfl) (Js FB)) hS ?_;obtain⟨am,e11⟩:∃x,ak.put jM[10].dst (.pointer (some (Z FB 1)))=x:=⟨_,rfl⟩;have aF:=aE.put 163 (.pointer (some (Z FB 1))) e11 rfl (by decide);rw[e11];have aS:Hid (am=ak.put (some 163) (.pointer (some (Z FB 1)))):=e11.symm;clear e11 aE;refine jk (i:=11) (v:=vi vals) rfl (by kernel_rfl) (by kernel_rfl) (by kernel_rfl) (by kernel_rfl) (hp _ _) (xJ rfl rfl (aF.at 0 rfl) (fun W hW=>Jt hW.2.1)) hS ?_;obtain⟨a12,e12⟩:∃x,am.put jM[11].dst (vi vals)=x:=⟨_,rfl⟩;have aG:=aF.put 164 (vi vals) e12 rfl (by decide);rw[e12];have aT:Hid (a12=am.put (some 164) (vi vals)):=e12.symm;clear e12 aF;refine kC (i:=12) rfl rfl (by kernel_rfl) ?_;refine jx (f:=54) (args := #[vi vals,vi 1]) (kY (y:=.const (vi 1)) rfl (aG.at 0 rfl) rfl (enters_of Tryz.func54 (by kernel_rfl) rfl) _) (max_any vals 1 w) ?_;rintro e w8 ⟨yz8,rfl,hw8⟩;have aD:w=w8:=hw8.symm;subst aD;refine⟨_,rfl,fun _=>hS,?_⟩;obtain⟨an,e13⟩:∃x,a12.put jM[12].dst (vi yz8)=x:=⟨_,rfl⟩;have ah:=aG.put 165 (vi yz8) e13 rfl (by decide);rw[e13];have aU:Hid (an=a12.put (some 165) (vi yz8)):=e13.symm;clear e13 aG;refine kC (i:=13) rfl rfl (by kernel_rfl) ?_;refine jx (f:=48) (args := #[.pointer (some (Z C 0)),vi yz8]) (kY rfl (ah.at 3 rfl) (ah.at 0 rfl) (enters_of Tryz.func48 (by kernel_rfl) rfl) _) (jH C yz8 w D.cur) ?_;rintro e w9 ⟨yz9,rfl,_,_,_,f9,hc9⟩;have D9:DSt w9 C lo G B:=D.draw f9 hc9;have aN:jE w9 C lo G (sq g 0 B.length cap) B vals:=gs.lo D.hG (ju.fr f9 D.hC);have aa:w9.cell? (Z FB 0)=some (sq g 0 n cap)∧w9.cell? (Z FB 1)=some (vi vals)∧w9.cell? (Z g (b*6))=some (.slice la pn lcap):=⟨(f9.cell (x:=(Z FB 0)) af hFC).trans hS.1,(f9.cell (x:=(Z FB 1)) af hFC).trans hS.2.1,(f9.cell (x:=(Z g (b*6))) hgw aO).trans hS.2.2⟩;have be:g<w9.heap.size:=Nat.lt_of_lt_of_le hgw f9.size;have bd:FB<w9.heap.size:=Nat.lt_of_lt_of_le af f9.size;have r9:w9.frozen? (Z g (b*6))=false:=(f9.frozen (x:=(Z g (b*6))) hgw aO).trans (hgf _);refine⟨_,rfl,fun _=>aa,?_⟩;obtain⟨ao,e14⟩:∃x,an.put jM[13].dst (vi yz9)=x:=⟨_,rfl⟩;have aH:=ah.put 166 (vi yz9) e14 rfl (by decide);rw[e14];have aV:Hid (ao=an.put (some 166) (vi yz9)):=e14.symm;clear e14 ah;refine jk (i:=14) (v:=.agg #[vi yz9,.slice none 0 0]) rfl (by kernel_rfl) (by kernel_rfl) (by kernel_rfl) (by kernel_rfl) (hp _ _) (abO rfl rfl (aH.at 0 rfl) (aaM yz9)) aa ?_;obtain⟨ap,e15⟩:∃x,ao.put jM[14].dst (.agg #[vi yz9,.slice none 0 0])=x:=⟨_,rfl⟩;have aJ:=aH.put 167 (.agg #[vi yz9,.slice none 0 0]) e15 rfl (by decide);rw[e15];have aW:Hid (ap=ao.put (some 167) (.agg #[vi yz9,.slice none 0 0])):=e15.symm;clear e15 aH;refine kC (i:=15) rfl rfl (by kernel_rfl) ?_;have ae:=adu yz9 none 0 0 w9;obtain⟨H,hw11⟩:∃W,w9.alloc (.cells #[vi yz9,.slice none 0 0] 107)=W:=⟨_,rfl⟩;rw[hw11] at ae;refine jt (v:=sq w9.heap.size 0 1 1) (w':=H) (Yc rfl (aJ.at 0 rfl) ae) ?_;have X:H.cell? (Z FB 0)=some (sq g 0 n cap)∧H.cell? (Z FB 1)=some (vi vals)∧H.cell? (Z g (b*6))=some (.slice la pn lcap):=by rw[←hw11];exact⟨qC _ aa.1,qC _ aa.2.1,qC _ aa.2.2⟩
 have L:Below w9.heap.size w9 H:=by rw[←hw11];exact Bel.alloc _ _
 refine⟨fun _=>X,?_⟩;obtain⟨aq,e16⟩:∃x,ap.put jM[15].dst (sq w9.heap.size 0 1 1)=x:=⟨_,rfl⟩;have ai:=aJ.put 168 (sq w9.heap.size 0 1 1) e16 rfl (by decide);rw[e16];have aX:Hid (aq=ap.put (some 168) (sq w9.heap.size 0 1 1)):=e16.symm;clear e16 aJ;obtain⟨xs,hxs,hxi,hn4⟩:=aN.phi b x hx;have ac:lo≤w9.heap.size:=by have h1:=D9.hG;have h2:=D9.xx;omega
 have U:jE H C lo G (sq g 0 B.length cap) B vals:=aN.lo D.hG (ju.later L);have K:H.ownsRow lo 107 2 (.slice la pn lcap) pn xs:=by
  rw[←hw11,←hpv,←hpn];exact World.ownsRow.alloc hxs _
 obtain⟨i0,hi,hz0,hz1,hz2⟩:=info_parts aeK;have bn:100≤maxLen:=by decide
 have bj:H.heap.size=w9.heap.size+1:=by rw[←hw11];simp
 refine kC (i:=16) rfl rfl (by kernel_rfl) ?_;refine Yr _ _ 38 rfl lo 107 i0 _ 2 32 Tryz.underlying38 hi hz0 hz1 hz2 rfl (by decide) (.slice la pn lcap) pn xs (ai.at 7 rfl) K (Z w9.heap.size 0) 1 1 [vi yz9,.slice none 0 0] (ai.at 0 rfl) rfl ?news (by intro u hu;simp at hu;rcases hu with rfl|rfl <;> rfl) (by omega) (by omega) (by omega) ?_
 case news=>
  intro j u hj;have e2:H.heap[w9.heap.size]?=some (.cells #[vi yz9,.slice none 0 0] 107 (0,0)):=by
   rw[←hw11];exact World.alloc_heap_new _ _
  have bg:j=0∨j=1:=by
   have:=(List.getElem?_eq_some_iff.1 hj).1;simp at this;omega
  rcases bg with rfl|rfl <;> (simp at hj;subst hj;simp[World.cell?,yE,e2])
 intro v' wa M ab bm;obtain⟨g',cap',rfl⟩:=ownsRow_succ M;have I:H.ownsRow lo 107 2 x.pv x.pn xs:=by rw[hpv,hpn];exact K
 have r:H.grownBy wa x.pv.ownBlock:=by rw[hpv];exact ab
 obtain⟨aA,hin⟩:=U.aeJ hx r;have bh:qQ H x.pv.ownBlock 143:=qQ.of I (by decide)
 have J:∀(k:Nat) c t z,H.heap[k]?=some (.cells c t z)→t≠107→wa.heap[k]?=some (.cells c t z):=fun k c t z hk ht=>(r.block k (aI hk).1 (fun e=>by
  obtain⟨c2,hc2⟩:=jo I k e.symm;rw[hk] at hc2;cases hc2
  exact ht rfl)).trans hk
 obtain⟨gc,hgc2⟩:=jo U.row g rfl;have bf:=J g _ _ _ hgc2 (by decide);have aM:wa.heap[g]?=H.heap[g]?:=bf.trans hgc2.symm;have ax:H.heap[FB]?=some (.cells #[sq g 0 n cap,vi vals] 26 fv):=(L.block FB bd).trans ((f9.block FB af hFC).trans fb);have O:H.heap[R0]?=some (.cells rc 26 rv):=(L.block R0 (Nat.lt_of_lt_of_le V f9.size)).trans ((f9.block R0 V hRC).trans rb);have ay:=J FB _ _ _ ax (by decide);have bk:=J R0 _ _ _ O (by decide);have bc:Hid (j9 C w (wa.setCell (Z g (b*6)) (sq g' 0 (pn+1) cap'))):=fun R0 rc rv bl rb=>by
  have hRC:R0≠C:=by omega
  have V:R0<w.heap.size:=(aI rb).1;have O:H.heap[R0]?=some (.cells rc 26 rv):=(L.block R0 (Nat.lt_of_lt_of_le V f9.size)).trans ((f9.block R0 V hRC).trans rb);exact(Below.heap_setCell _ _ _ R0 (ag R0 _ _ rb)).trans (J R0 _ _ _ O (by decide))
 have qa:wa.cell? (Z g (b*6))=some (.slice la pn lcap):=(World.cell?_of_block (w:=H) (w':=wa) (a:=(Z g (b*6))) aM).trans X.2.2;have ra:wa.frozen? (Z g (b*6))=false:=by
  rw[World.frozen?_of_block (w:=H) (w':=wa) (a:=(Z g (b*6))) aM,L.frozen (p:=(Z g (b*6))) be];exact r9
 have az:wa.cell? (Z FB 0)=some (sq g 0 n cap)∧wa.cell? (Z FB 1)=some (vi vals)∧wa.cell? (Z g (b*6))=some (.slice la pn lcap):=⟨by simp[World.cell?,ay],by simp[World.cell?,ay],qa⟩;have aP:xs.length=pn*2:=by have:=K.1;exact this
 have bi:Jr wa lo (sq g' 0 (pn+1) cap') (pn+1):=⟨_,M,fun j hj=>by
  by_cases e:j<pn
  ·obtain⟨d',av',al',e1,e2,e3⟩:=hxi j (by rw[hpn];exact e);exact⟨d',av',al',(by rw[List.getElem?_append_left (by omega)];exact e1),(by rw[List.getElem?_append_left (by omega)];exact e2),(e3.1.lo (ju.later L)).other r bh⟩
  ·have e2:j=pn:=by omega
   subst e2
   exact⟨yz9,.slice none 0 0,0,(by rw[List.getElem?_append_right (by omega)];simp[aP]),(by rw[List.getElem?_append_right (by omega)];simp[aP]),none,0,rfl,Nat.le_refl _,by omega,fun h=>absurd h (by omega)⟩⟩
 have ad:=aA.prog (n:=n) (j:=0) (b' := { x with pv:=sq g' 0 (pn+1) cap',pn:=pn+1 }) (u:=sq g' 0 (pn+1) cap') hx (by omega) rfl hin bi hBn
 have aw:Below C w wa:=(f9.yL (Nat.le_of_lt D.cur.lt)).trans ((L.mono (by have:=D9.cur.lt;omega)).trans ((Below.refl C H).grown r (by have:=D9.cur.lt;omega) (fun j hj=>by
  have h1:=(World.ownsRow.lt I j hj).1;have h2:=D.hC
  omega)))
 refine⟨fun _=>az,?_⟩;obtain⟨ar,e17⟩:∃x,aq.put jM[16].dst (sq g' 0 (pn+1) cap')=x:=⟨_,rfl⟩;have aj:=ai.put 169 (sq g' 0 (pn+1) cap') e17 rfl (by decide);rw[e17];have aY:Hid (ar=aq.put (some 169) (sq g' 0 (pn+1) cap')):=e17.symm;clear e17 ai;refine kC (i:=17) rfl rfl (by kernel_rfl) ?_;refine jt (v:=.pointer (some (Z g (b*6)))) (w':=wa) (Qh rfl (aj.at 15 rfl) (aj.at 14 rfl) (jN hb wa)) ?_;refine⟨fun _=>az,?_⟩;obtain⟨au,e18⟩:∃x,ar.put jM[17].dst (.pointer (some (Z g (b*6))))=x:=⟨_,rfl⟩;have aK:=aj.put 170 (.pointer (some (Z g (b*6)))) e18 rfl (by decide);rw[e18];have aZ:Hid (au=ar.put (some 170) (.pointer (some (Z g (b*6))))):=e18.symm;clear e18 aj;refine kC (i:=18) rfl rfl (by kernel_rfl) ?_;refine jt (v:=.pointer (some (Z g (b*6)))) (w':=wa) (Qi rfl (aK.at 0 rfl) (kP g (b*6) wa)) ?_;refine⟨fun _=>az,?_⟩;obtain⟨aL,e19⟩:∃x,au.put jM[18].dst (.pointer (some (Z g (b*6))))=x:=⟨_,rfl⟩;have aQ:=aK.put 171 (.pointer (some (Z g (b*6)))) e19 rfl (by decide);rw[e19];have bb:Hid (aL=au.put (some 171) (.pointer (some (Z g (b*6))))):=e19.symm;clear e19 aK;refine kC (i:=19) rfl rfl (by kernel_rfl) ?_;refine qF (w':=wa.setCell (Z g (b*6)) (sq g' 0 (pn+1) cap')) (kV rfl (aQ.at 0 rfl) (aQ.at 2 rfl) (zO qa ra _ _ _)) ?_;refine⟨fun h=>absurd rfl h,zq (by kernel_rfl) ?_ _⟩;have aB:Cur (wa.setCell (Z g (b*6)) (sq g' 0 (pn+1) cap')) C:=hc9.below D.hC (((L.mono ac).trans ((Below.refl lo H).grown r (by omega) (fun j hj=>(World.ownsRow.lt I j hj).1))).setCell (p:=(Z g (b*6))) hlog _);have bo:∀k c z,w.heap[k]?=some (.cells c 26 z)→k≠g:=ag;have aC:=hQ yz8 yz9 (sq w9.heap.size 0 1 1) (sq g' 0 (pn+1) cap') (wa.setCell (Z g (b*6)) (sq g' 0 (pn+1) cap')) ⟨ad,(Below.heap_setCell _ _ _ FB (ag FB _ _ fb)).trans (ay.trans fb.symm),(Below.heap_setCell _ _ _ R0 (ag R0 _ _ rb)).trans (bk.trans rb.symm),bc.out,aw.setCell (p:=(Z g (b*6))) (by show C≤g;have:=D.hC;omega) _,aB⟩;show Q .normal aL _;rw[bb.out,aZ.out,aY.out,aX.out,aW.out,aV.out,aU.out,aT.out,aS.out,aR.out,E9.out,E8.out,E7.out,E6.out,E5.out,E4.out,E3.out,E2.out,E1.out];exact aC
end Go.Proofs.YtkbhbekfniadhaaGreat
