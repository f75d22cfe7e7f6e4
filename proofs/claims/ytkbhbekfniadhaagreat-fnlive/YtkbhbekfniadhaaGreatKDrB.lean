/- The draw: a phi is put behind the phis of a block: the region of a choice's loop, in whatever order. The draw: a choice. The draw: the three phis of a loop: a region that draws its order. The draw: a loop. The draw: code of any depth. -/
import Derived.Test.YtkbhbekfniadhaaGreatTkK
import Derived.Test.YtkbhbekfniadhaaGreatTk0
import Derived.Test.YtkbhbekfniadhaaGreatKDrA
import Derived.Test.YtkbhbekfniadhaaGreatKReg
import Derived.Deep.RegionHeld3
set_option maxRecDepth 100000
set_option maxHeartbeats 16000000
namespace Go.Proofs.YtkbhbekfniadhaaGreat
open Go.ChangeShapes Go.WideShapes Go.ChangeAt Go.RowKit
set_option linter.unusedVariables false
section
variable {P:Program} {o:Oper} {a:Act}
theorem yH {t:TypeId}{x y:Operand}{p q v:Value}{w w':World}(ho:o.op=.buildSlice t 2 #[(0,x),(1,y)])(hx:a.eval x=p)(hy:a.eval y=q)(h:(Instr.buildSlice t 2 #[(0,p),(1,q)]).run P w=.ok v w'):(execOp a.eval o).run P w=.ok (.value v) w':=by
 simp[execOp,ho,hx,hy,h]
theorem Yc {t:TypeId}{x:Operand}{p v:Value}{w w':World}(ho:o.op=.buildSlice t 1 #[(0,x)])(hx:a.eval x=p)(h:(Instr.buildSlice t 1 #[(0,p)]).run P w=.ok v w'):(execOp a.eval o).run P w=.ok (.value v) w':=by
 simp[execOp,ho,hx,h]
theorem Qh {t:TypeId}{x y:Operand}{p q v:Value}{w w':World}(ho:o.op=.indexAddr t x y)(hx:a.eval x=p)(hy:a.eval y=q)(h:(Instr.indexAt t p q).run P w=.ok v w'):(execOp a.eval o).run P w=.ok (.value v) w':=by
 simp[execOp,ho,hx,hy,h]
theorem Qi {t:TypeId}{x:Operand}{f:Nat}{p v:Value}{w w':World}(ho:o.op=.fieldAddr t x f)(hx:a.eval x=p)(h:(Instr.fieldAt t p f).run P w=.ok v w'):(execOp a.eval o).run P w=.ok (.value v) w':=by
 simp[execOp,ho,hx,h]
theorem kV {t:TypeId}{x y:Operand}{p v:Value}{w w':World}(ho:o.op=.store t x y)(hx:a.eval x=p)(hy:a.eval y=v)(h:(Instr.storeAt t p v).run P w=.ok () w'):(execOp a.eval o).run P w=.ok .skip w':=by
 simp[execOp,ho,hx,hy,h]
end
theorem zO {w:World}{g j:Nat}{u:Value}(h:w.cell? (Z g j)=some u)(hf:w.frozen? (Z g j)=false)(a:Option Addr)(n c:Nat):(Instr.storeAt 38 (.pointer (some (Z g j))) (.slice a n c)).run Tryz.prog w=.ok () (w.setCell (Z g j) (.slice a n c)):=by
 simp[Instr.storeAt,Instr.sureAddr,go_sem,h,hf]
theorem aeK : (Tryz.prog.info? 107).map (fun i=>(i.zero,i.size,i.bytes))=some (some (.agg #[vi 0,.slice none 0 0]),2,32):=by kernel_rfl
noncomputable def KM:Array Oper:=rF Tryz.f124 14
theorem ifBody (C lo G:Nat)(B:List Bk)(en y mm:Nat)(d:Int)(KY KN:Value)(ly lm:List Int)(g n cap pn lcap:Nat)(la:Option Addr)(x:Bk)(a:Act)(hsz:a.tmps.size=129)(h0:a.eval (.tmp 0)=.pointer (some (Z G 0)))(h13:a.eval (.tmp 13)=vi (y:Int))(h14:a.eval (.tmp 14)=KY)(h15:a.eval (.tmp 15)=vi (mm:Int))(h16:a.eval (.tmp 16)=KN)(h17:a.eval (.tmp 17)=vi (en:Int))(h19:a.eval (.tmp 19)=vi d)(w:World)
  (D:DSt w C lo G B) (hBn:B.length=n) (hen:en<n) (hx:B[en]?=some x) (hpv:x.pv=.slice la pn lcap) (hpn:x.pn=pn) (hp4:pn<4) (ky:ja w lo KY ly) (kn:ja w lo KN lm) (hly:0<ly.length∧ly.length≤1000) (hlm:0<lm.length∧lm.length≤1000)
  (c1:w.cell? (Z G 1)=some (sq g 0 n cap)) (q0:w.cell? (Z g (en*6))=some (.slice la pn lcap)) (r0:w.frozen? (Z g (en*6))=false) (hgw:g<w.heap.size) (hGw:G<w.heap.size) (hgC:g≠C) (hGC:G≠C)
  (Q:Exit→Act→World→Prop) (hQp:∀c a w,¬Q (.panic c) a w)
  (hQ:∀(a8 a9:Int) (A Ph v':Value) (W':World) (B':List Bk),B'.length=B.length→DSt W' C lo G B'→FrD C lo G w W'→(∃x',B'[en]?=some x'∧x'.pn=pn+1)→Q .normal ((((((((((((((((((((((((((((((((a.put (some 89) (.pointer (some (Z G 0)))).put (some 90) (.pointer (some (Z G 0)))).put (some 91) (.pointer (some (Z G 1)))).put (some 92) (.pointer (some (Z G 1)))).put (some 93) (sq g 0 n cap)).put (some 94) (vi (en:Int))).put (some 95) (.pointer (some (Z G 0)))).put (some 96) (.pointer (some (Z G 0)))).put (some 97) (.pointer (some (Z G 1)))).put (some 98) (.pointer (some (Z G 1)))).put (some 99) (sq g 0 n cap)).put (some 100) (vi (en:Int))).put (some 101) (.pointer (some (Z g (en*6))))).put (some 102) (.pointer (some (Z g (en*6))))).put (some 103) (.slice la pn lcap)).put (some 104) (vi d)).put (some 105) (vi (y:Int))).put (some 106) (.pointer (some (Z G 0)))).put (some 107) (KY)).put (some 110) (vi (mm:Int))).put (some 111) (.pointer (some (Z G 0)))).put (some 112) (KN)).put (some 108) (vi a8)).put (some 109) (.agg #[vi (y:Int),vi a8])).put (some 113) (vi a9)).put (some 114) (.agg #[vi (mm:Int),vi a9])).put (some 115) (A)).put (some 116) (.agg #[vi d,A])).put (some 117) (Ph)).put (some 118) (v')).put (some 119) (.pointer (some (Z g (en*6))))).put (some 120) (.pointer (some (Z g (en*6))))) W') :
  xQ Tryz.prog .any KM Q 32 (fun W=>W.cell? (Z G 1)=some (sq g 0 n cap)∧W.cell? (Z g (en*6))=some (.slice la pn lcap)) 33 (Array.replicate 33 false) a w:=by
 have hS:w.cell? (Z G 1)=some (sq g 0 n cap)∧w.cell? (Z g (en*6))=some (.slice la pn lcap):=⟨c1,q0⟩;have hp:∀(o:Option Tmp) (v:Value) c a w,Q (.panic c) (a.put o v) w→Q (.panic c) a w:=fun o v c a w h=>absurd h (hQp _ _ _)
 have s0:=((((((((Sl.nil hsz).add h0).add h13).add h14).add h15).add h16).add h17).add h19);refine jk (i:=0) (v:=.pointer (some (Z G 0))) rfl (by kernel_rfl) (by kernel_rfl) (by kernel_rfl) (by kernel_rfl) (hp _ _) (ku rfl rfl h0) hS ?_;obtain⟨a1,e1⟩:∃x,a.put KM[0].dst (.pointer (some (Z G 0)))=x:=⟨_,rfl⟩;have s1:=s0.put 89 (.pointer (some (Z G 0))) e1 rfl (by decide);rw[e1];have E1:Hid (a1=a.put (some 89) (.pointer (some (Z G 0)))):=e1.symm;clear e1 hsz h0 h13 h14 h15 h16 h17 h19 s0;refine jk (i:=1) (v:=.pointer (some (Z G 0))) rfl (by kernel_rfl) (by kernel_rfl) (by kernel_rfl) (by kernel_rfl) (hp _ _) (abz rfl rfl (s1.at 0 rfl)) hS ?_;obtain⟨a2,e2⟩:∃x,a1.put KM[1].dst (.pointer (some (Z G 0)))=x:=⟨_,rfl⟩;have s2:=s1.put 90 (.pointer (some (Z G 0))) e2 rfl (by decide);rw[e2];have E2:Hid (a2=a1.put (some 90) (.pointer (some (Z G 0)))):=e2.symm;clear e2 s1;refine jk (i:=2) (v:=.pointer (some (Z G 1))) rfl (by kernel_rfl) (by kernel_rfl) (by kernel_rfl) (by kernel_rfl) (hp _ _) (qd rfl rfl (s2.at 0 rfl) (yG G)) hS ?_;obtain⟨a3,e3⟩:∃x,a2.put KM[2].dst (.pointer (some (Z G 1)))=x:=⟨_,rfl⟩;have s3:=s2.put 91 (.pointer (some (Z G 1))) e3 rfl (by decide);rw[e3];have E3:Hid (a3=a2.put (some 91) (.pointer (some (Z G 1)))):=e3.symm;clear e3 s2;refine jk (i:=3) (v:=.pointer (some (Z G 1))) rfl (by kernel_rfl) (by kernel_rfl) (by kernel_rfl) (by kernel_rfl) (hp _ _) (qd rfl rfl (s3.at 0 rfl) (jR G 1)) hS ?_;obtain⟨a4,e4⟩:∃x,a3.put KM[3].dst (.pointer (some (Z G 1)))=x:=⟨_,rfl⟩;have s4:=s3.put 92 (.pointer (some (Z G 1))) e4 rfl (by decide);rw[e4];have E4:Hid (a4=a3.put (some 92) (.pointer (some (Z G 1)))):=e4.symm;clear e4 s3;refine jk (i:=4) (v:=sq g 0 n cap) rfl (by kernel_rfl) (by kernel_rfl) (by kernel_rfl) (by kernel_rfl) (hp _ _) (xJ rfl rfl (s4.at 0 rfl) (fun W hW=>ye hW.1)) hS ?_;obtain⟨a5,e5⟩:∃x,a4.put KM[4].dst (sq g 0 n cap)=x:=⟨_,rfl⟩;have s5:=s4.put 93 (sq g 0 n cap) e5 rfl (by decide);rw[e5];have E5:Hid (a5=a4.put (some 93) (sq g 0 n cap)):=e5.symm;clear e5 s4;refine jk (i:=5) (v:=vi (en:Int)) rfl (by kernel_rfl) (by kernel_rfl) (by kernel_rfl) (by kernel_rfl) (hp _ _) (ku rfl rfl (s5.at 6 rfl)) hS ?_;obtain⟨a6,e6⟩:∃x,a5.put KM[5].dst (vi (en:Int))=x:=⟨_,rfl⟩;have s6:=s5.put 94 (vi (en:Int)) e6 rfl (by decide);rw[e6];have E6:Hid (a6=a5.put (some 94) (vi (en:Int))):=e6.symm;clear e6 s5;refine jk (i:=6) (v:=.pointer (some (Z G 0))) rfl (by kernel_rfl) (by kernel_rfl) (by kernel_rfl) (by kernel_rfl) (hp _ _) (ku rfl rfl (s6.at 12 rfl)) hS ?_;obtain⟨a7,e7⟩:∃x,a6.put KM[6].dst (.pointer (some (Z G 0)))=x:=⟨_,rfl⟩;have s7:=s6.put 95 (.pointer (some (Z G 0))) e7 rfl (by decide);rw[e7];have E7:Hid (a7=a6.put (some 95) (.pointer (some (Z G 0)))):=e7.symm;clear e7 s6;refine jk (i:=7) (v:=.pointer (some (Z G 0))) rfl (by kernel_rfl) (by kernel_rfl) (by kernel_rfl) (by kernel_rfl) (hp _ _) (abz rfl rfl (s7.at 0 rfl)) hS ?_;obtain⟨a8,e8⟩:∃x,a7.put KM[7].dst (.pointer (some (Z G 0)))=x:=⟨_,rfl⟩;have s8:=s7.put 96 (.pointer (some (Z G 0))) e8 rfl (by decide);rw[e8];have E8:Hid (a8=a7.put (some 96) (.pointer (some (Z G 0)))):=e8.symm;clear e8 s7;refine jk (i:=8) (v:=.pointer (some (Z G 1))) rfl (by kernel_rfl) (by kernel_rfl) (by kernel_rfl) (by kernel_rfl) (hp _ _) (qd rfl rfl (s8.at 0 rfl) (yG G)) hS ?_;obtain⟨a9,e9⟩:∃x,a8.put KM[8].dst (.pointer (some (Z G 1)))=x:=⟨_,rfl⟩;have s9:=s8.put 97 (.pointer (some (Z G 1))) e9 rfl (by decide);rw[e9];have E9:Hid (a9=a8.put (some 97) (.pointer (some (Z G 1)))):=e9.symm;clear e9 s8;refine jk (i:=9) (v:=.pointer (some (Z G 1))) rfl (by kernel_rfl) (by kernel_rfl) (by kernel_rfl) (by kernel_rfl) (hp _ _) (qd rfl rfl (s9.at 0 rfl) (jR G 1)) hS ?_;obtain⟨ad,e10⟩:∃x,a9.put KM[9].dst (.pointer (some (Z G 1)))=x:=⟨_,rfl⟩;have aA:=s9.put 98 (.pointer (some (Z G 1))) e10 rfl (by decide);rw[e10];have aU:Hid (ad=a9.put (some 98) (.pointer (some (Z G 1)))):=e10.symm;clear e10 s9;refine jk (i:=10) (v:=sq g 0 n cap) rfl (by kernel_rfl) (by kernel_rfl) (by kernel_rfl) (by kernel_rfl) (hp _ _) (xJ rfl rfl (aA.at 0 rfl) (fun W hW=>ye hW.1)) hS ?_;obtain⟨ae,e11⟩:∃x,ad.put KM[10].dst (sq g 0 n cap)=x:=⟨_,rfl⟩;have aB:=aA.put 99 (sq g 0 n cap) e11 rfl (by decide);rw[e11];have aV:Hid (ae=ad.put (some 99) (sq g 0 n cap)):=e11.symm;clear e11 aA;refine jk (i:=11) (v:=vi (en:Int)) rfl (by kernel_rfl) (by kernel_rfl) (by kernel_rfl) (by kernel_rfl) (hp _ _) (ku rfl rfl (aB.at 12 rfl)) hS ?_;obtain⟨a12,e12⟩:∃x,ae.put KM[11].dst (vi (en:Int))=x:=⟨_,rfl⟩;have L:=aB.put 100 (vi (en:Int)) e12 rfl (by decide);rw[e12];have aW:Hid (a12=ae.put (some 100) (vi (en:Int))):=e12.symm;clear e12 aB;refine jk (i:=12) (v:=.pointer (some (Z g (en*6)))) rfl (by kernel_rfl) (by kernel_rfl) (by kernel_rfl) (by kernel_rfl) (hp _ _) (Yv rfl rfl (L.at 1 rfl) (L.at 0 rfl) (fun W _=>jN hen W)) hS ?_;obtain⟨af,e13⟩:∃x,a12.put KM[12].dst (.pointer (some (Z g (en*6))))=x:=⟨_,rfl⟩;have aC:=L.put 101 (.pointer (some (Z g (en*6)))) e13 rfl (by decide);rw[e13];have aX:Hid (af=a12.put (some 101) (.pointer (some (Z g (en*6))))):=e13.symm;clear e13 L;refine jk (i:=13) (v:=.pointer (some (Z g (en*6)))) rfl (by kernel_rfl) (by kernel_rfl) (by kernel_rfl) (by kernel_rfl) (hp _ _) (qd rfl rfl (aC.at 0 rfl) (kP g (en*6))) hS ?_;obtain⟨ag,e14⟩:∃x,af.put KM[13].dst (.pointer (some (Z g (en*6))))=x:=⟨_,rfl⟩;have aD:=aC.put 102 (.pointer (some (Z g (en*6)))) e14 rfl (by decide);rw[e14];have aY:Hid (ag=af.put (some 102) (.pointer (some (Z g (en*6))))):=e14.symm;clear e14 aC;refine jk (i:=14) (v:=.slice la pn lcap) rfl (by kernel_rfl) (by kernel_rfl) (by kernel_rfl) (by kernel_rfl) (hp _ _) (xJ rfl rfl (aD.at 0 rfl) (fun W hW=>yY hW.2)) hS ?_;obtain⟨ah,e15⟩:∃x,ag.put KM[14].dst (.slice la pn lcap)=x:=⟨_,rfl⟩;have aE:=aD.put 103 (.slice la pn lcap) e15 rfl (by decide);rw[e15];have aZ:Hid (ah=ag.put (some 103) (.slice la pn lcap)):=e15.symm;clear e15 aD;refine jk (i:=15) (v:=vi d) rfl (by kernel_rfl) (by kernel_rfl) (by kernel_rfl) (by kernel_rfl) (hp _ _) (ku rfl rfl (aE.at 15 rfl)) hS ?_;obtain⟨ai,e16⟩:∃x,ah.put KM[15].dst (vi d)=x:=⟨_,rfl⟩;have aF:=aE.put 104 (vi d) e16 rfl (by decide);rw[e16];have bb:Hid (ai=ah.put (some 104) (vi d)):=e16.symm;clear e16 aE;refine jk (i:=16) (v:=vi (y:Int)) rfl (by kernel_rfl) (by kernel_rfl) (by kernel_rfl) (by kernel_rfl) (hp _ _) (ku rfl rfl (aF.at 21 rfl)) hS ?_;obtain⟨aj,e17⟩:∃x,ai.put KM[16].dst (vi (y:Int))=x:=⟨_,rfl⟩;have aG:=aF.put 105 (vi (y:Int)) e17 rfl (by decide);rw[e17];have bc:Hid (aj=ai.put (some 105) (vi (y:Int))):=e17.symm;clear e17 aF;refine jk (i:=17) (v:=.pointer (some (Z G 0))) rfl (by kernel_rfl) (by kernel_rfl) (by kernel_rfl) (by kernel_rfl) (hp _ _) (ku rfl rfl (aG.at 23 rfl)) hS ?_;obtain⟨ak,e18⟩:∃x,aj.put KM[17].dst (.pointer (some (Z G 0)))=x:=⟨_,rfl⟩;have aH:=aG.put 106 (.pointer (some (Z G 0))) e18 rfl (by decide);rw[e18];have bd:Hid (ak=aj.put (some 106) (.pointer (some (Z G 0)))):=e18.symm;clear e18 aG;refine jk (i:=18) (v:=KY) rfl (by kernel_rfl) (by kernel_rfl) (by kernel_rfl) (by kernel_rfl) (hp _ _) (ku rfl rfl (aH.at 22 rfl)) hS ?_;obtain⟨am,e19⟩:∃x,ak.put KM[18].dst (KY)=x:=⟨_,rfl⟩;have aJ:=aH.put 107 (KY) e19 rfl (by decide);rw[e19];have be:Hid (am=ak.put (some 107) (KY)):=e19.symm;clear e19 aH;refine jk (i:=21) (v:=vi (mm:Int)) rfl (by kernel_rfl) (by kernel_rfl) (by kernel_rfl) (by kernel_rfl) (hp _ _) (ku rfl rfl (aJ.at 22 rfl)) hS ?_;obtain⟨a20,e20⟩:∃x,am.put KM[21].dst (vi (mm:Int))=x:=⟨_,rfl⟩;have aK:=aJ.put 110 (vi (mm:Int)) e20 rfl (by decide);rw[e20];have bf:Hid (a20=am.put (some 110) (vi (mm:Int))):=e20.symm;clear e20 aJ;refine jk (i:=22) (v:=.pointer (some (Z G 0))) rfl (by kernel_rfl) (by kernel_rfl) (by kernel_rfl) (by kernel_rfl) (hp _ _) (ku rfl rfl (aK.at 26 rfl)) hS ?_;obtain⟨a21,e21⟩:∃x,a20.put KM[22].dst (.pointer (some (Z G 0)))=x:=⟨_,rfl⟩;have aL:=aK.put 111 (.pointer (some (Z G 0))) e21 rfl (by decide);rw[e21];have bg:Hid (a21=a20.put (some 111) (.pointer (some (Z G 0)))):=e21.symm;clear e21 aK;refine jk (i:=23) (v:=KN) rfl (by kernel_rfl) (by kernel_rfl) (by kernel_rfl) (by kernel_rfl) (hp _ _) (ku rfl rfl (aL.at 23 rfl)) hS ?_;obtain⟨a22,e22⟩:∃x,a21.put KM[23].dst (KN)=x:=⟨_,rfl⟩;have M:=aL.put 112 (KN) e22 rfl (by decide);rw[e22];have bh:Hid (a22=a21.put (some 112) (KN)):=e22.symm;clear e22 aL;refine kC (i:=19) rfl rfl (by kernel_rfl) ?_;refine jx (f:=107) (args := #[.pointer (some (Z G 0)),KY]) (kY rfl (M.at 4 rfl) (M.at 3 rfl) (enters_of Tryz.func107 (by kernel_rfl) rfl) _) (kG C lo G B KY ly w D ky (by omega) (by omega)) ?_;rintro e w8 ⟨a8,rfl,D8,f8⟩;have c8:w8.cell? (Z G 1)=some (sq g 0 n cap):=(f8.cell (x:=(Z G 1)) hGw hGC).trans c1;have q8:w8.cell? (Z g (en*6))=some (.slice la pn lcap):=(f8.cell (x:=(Z g (en*6))) hgw hgC).trans q0;have aP:w8.cell? (Z G 1)=some (sq g 0 n cap)∧w8.cell? (Z g (en*6))=some (.slice la pn lcap):=⟨c8,q8⟩;refine⟨_,rfl,fun _=>aP,?_⟩;obtain⟨an,e23⟩:∃x,a22.put KM[19].dst (vi a8)=x:=⟨_,rfl⟩;have O:=M.put 108 (vi a8) e23 rfl (by decide);rw[e23];have bi:Hid (an=a22.put (some 108) (vi a8)):=e23.symm;clear e23 M;refine jk (i:=20) (v:=.agg #[vi (y:Int),vi a8]) rfl (by kernel_rfl) (by kernel_rfl) (by kernel_rfl) (by kernel_rfl) (hp _ _) (JF rfl rfl (O.at 6 rfl) (O.at 0 rfl) (qe _ _)) aP ?_;obtain⟨a24,e24⟩:∃x,an.put KM[20].dst (.agg #[vi (y:Int),vi a8])=x:=⟨_,rfl⟩;have U:=O.put 109 (.agg #[vi (y:Int),vi a8]) e24 rfl (by decide);rw[e24];have bj:Hid (a24=an.put (some 109) (.agg #[vi (y:Int),vi a8])):=e24.symm;clear e24 O;refine kC (i:=24) rfl rfl (by kernel_rfl) ?_;have bz:ja w8 lo KN lm:=jq kn (ju.fr f8 D.hC);refine jx (f:=107) (args := #[.pointer (some (Z G 0)),KN]) (kY rfl (U.at 3 rfl) (U.at 2 rfl) (enters_of Tryz.func107 (by kernel_rfl) rfl) _) (kG C lo G B KN lm w8 D8 bz (by omega) (by omega)) ?_;rintro e w9 ⟨a9,rfl,D9,f9⟩;have f89:Fr C w w9:=f8.trans f9;have c9:w9.cell? (Z G 1)=some (sq g 0 n cap):=(f89.cell (x:=(Z G 1)) hGw hGC).trans c1;have q9:w9.cell? (Z g (en*6))=some (.slice la pn lcap):=(f89.cell (x:=(Z g (en*6))) hgw hgC).trans q0;have r9:w9.frozen? (Z g (en*6))=false:=(f89.frozen (x:=(Z g (en*6))) hgw hgC).trans r0;have aQ:w9.cell? (Z G 1)=some (sq g 0 n cap)∧w9.cell? (Z g (en*6))=some (.slice la pn lcap):=⟨c9,q9⟩;have bv:g<w9.heap.size:=Nat.lt_of_lt_of_le hgw f89.size;have bA:G<w9.heap.size:=Nat.lt_of_lt_of_le hGw f89.size;refine⟨_,rfl,fun _=>aQ,?_⟩;obtain⟨ao,e25⟩:∃x,a24.put KM[24].dst (vi a9)=x:=⟨_,rfl⟩;have V:=U.put 113 (vi a9) e25 rfl (by decide);rw[e25];have bk:Hid (ao=a24.put (some 113) (vi a9)):=e25.symm;clear e25 U;refine jk (i:=25) (v:=.agg #[vi (mm:Int),vi a9]) rfl (by kernel_rfl) (by kernel_rfl) (by kernel_rfl) (by kernel_rfl) (hp _ _) (JF rfl rfl (V.at 5 rfl) (V.at 0 rfl) (qe _ _)) aQ ?_;obtain⟨ap,e26⟩:∃x,ao.put KM[25].dst (.agg #[vi (mm:Int),vi a9])=x:=⟨_,rfl⟩;have X:=V.put 114 (.agg #[vi (mm:Int),vi a9]) e26 rfl (by decide);rw[e26];have bl:Hid (ap=ao.put (some 114) (.agg #[vi (mm:Int),vi a9])):=e26.symm;clear e26 V;refine kC (i:=26) rfl rfl (by kernel_rfl) ?_;refine jt (v:=sq w9.heap.size 0 2 2) (w':=w9.alloc (.cells #[vi (y:Int),vi a8,vi (mm:Int),vi a9] 143)) (yH rfl (X.at 2 rfl) (X.at 0 rfl) (Xo _ _ _ _ _)) ?_;have r:(w9.alloc (.cells #[vi (y:Int),vi a8,vi (mm:Int),vi a9] 143)).cell? (Z G 1)=some (sq g 0 n cap)∧(w9.alloc (.cells #[vi (y:Int),vi a8,vi (mm:Int),vi a9] 143)).cell? (Z g (en*6))=some (.slice la pn lcap):=⟨qC _ c9,qC _ q9⟩;refine⟨fun _=>r,?_⟩;obtain⟨aq,e27⟩:∃x,ap.put KM[26].dst (sq w9.heap.size 0 2 2)=x:=⟨_,rfl⟩;have aa:=X.put 115 (sq w9.heap.size 0 2 2) e27 rfl (by decide);rw[e27];have bm:Hid (aq=ap.put (some 115) (sq w9.heap.size 0 2 2)):=e27.symm;clear e27 X;refine jk (i:=27) (v:=.agg #[vi d,sq w9.heap.size 0 2 2]) rfl (by kernel_rfl) (by kernel_rfl) (by kernel_rfl) (by kernel_rfl) (hp _ _) (JF rfl rfl (aa.at 11 rfl) (aa.at 0 rfl) (yX _ _ _ _)) r ?_;obtain⟨a28,e28⟩:∃x,aq.put KM[27].dst (.agg #[vi d,sq w9.heap.size 0 2 2])=x:=⟨_,rfl⟩;have aM:=aa.put 116 (.agg #[vi d,sq w9.heap.size 0 2 2]) e28 rfl (by decide);rw[e28];have bn:Hid (a28=aq.put (some 116) (.agg #[vi d,sq w9.heap.size 0 2 2])):=e28.symm;clear e28 aa;refine kC (i:=28) rfl rfl (by kernel_rfl) ?_;have H:=adu d (some (Z w9.heap.size 0)) 2 2 (w9.alloc (.cells #[vi (y:Int),vi a8,vi (mm:Int),vi a9] 143));rw[World.size_alloc] at H;obtain⟨I,hw11⟩:∃W,(w9.alloc (.cells #[vi (y:Int),vi a8,vi (mm:Int),vi a9] 143)).alloc (.cells #[vi d,sq w9.heap.size 0 2 2] 107)=W:=⟨_,rfl⟩;rw[hw11] at H;refine jt (v:=sq (w9.heap.size+1) 0 1 1) (w':=I) (Yc rfl (aM.at 0 rfl) H) ?_;have aw:I.cell? (Z G 1)=some (sq g 0 n cap)∧I.cell? (Z g (en*6))=some (.slice la pn lcap):=by rw[←hw11];exact⟨qC _ r.1,qC _ r.2⟩
 refine⟨fun _=>aw,?_⟩;obtain⟨ar,e29⟩:∃x,a28.put KM[28].dst (sq (w9.heap.size+1) 0 1 1)=x:=⟨_,rfl⟩;have ab:=aM.put 117 (sq (w9.heap.size+1) 0 1 1) e29 rfl (by decide);rw[e29];have bo:Hid (ar=a28.put (some 117) (sq (w9.heap.size+1) 0 1 1)):=e29.symm;clear e29 aM;obtain⟨g9,cap9,vals9,xx9,hxx9,gs9,c1x,_⟩:=D9.open (i:=en) (by rw[hBn];exact hen);have bw:g9=g∧cap9=cap:=by
  have h:=Option.some.inj (c9.symm.trans c1x)
  injection h with h1 h2 h3
  injection h1 with h1
  injection h1 with h1
  exact⟨h1.symm,h3.symm⟩
 obtain⟨rfl,rfl⟩:=bw;have bt:xx9=x:=by rw[hx] at hxx9;exact(Option.some.inj hxx9).symm
 subst bt;obtain⟨xs,hxs,hxi,hn4⟩:=gs9.phi en _ hxx9;have aS:lo≤w9.heap.size:=by have h1:=D9.hG;omega
 have K:I.ownsRow lo 107 2 (.slice la pn lcap) pn xs:=by
  rw[←hw11,←hpv,←hpn];exact World.ownsRow.alloc (World.ownsRow.alloc hxs _) _
 obtain⟨i0,hi,hz0,hz1,hz2⟩:=info_parts aeK;have bB:100≤maxLen:=by decide
 have az:I.heap.size=w9.heap.size+1+1:=by rw[←hw11];simp
 refine kC (i:=29) rfl rfl (by kernel_rfl) ?_;refine Yr _ _ 38 rfl lo 107 i0 _ 2 32 Tryz.underlying38 hi hz0 hz1 hz2 rfl (by decide) (.slice la pn lcap) pn xs (ab.at 14 rfl) K (Z (w9.heap.size+1) 0) 1 1 [vi d,sq w9.heap.size 0 2 2] (ab.at 0 rfl) rfl ?news (by intro u hu;simp at hu;rcases hu with rfl|rfl <;> rfl) (by omega) (by omega) (by omega) ?_
 case news=>
  intro j u hj;have e2:I.heap[w9.heap.size+1]?=some (.cells #[vi d,sq w9.heap.size 0 2 2] 107 (0,0)):=by
   rw[←hw11];have h:=World.alloc_heap_new (w9.alloc (.cells #[vi (y:Int),vi a8,vi (mm:Int),vi a9] 143)) (.cells #[vi d,sq w9.heap.size 0 2 2] 107);rw[World.size_alloc] at h;exact h
  have bx:j=0∨j=1:=by
   have:=(List.getElem?_eq_some_iff.1 hj).1;simp at this;omega
  rcases bx with rfl|rfl <;> (simp at hj;subst hj;simp[World.cell?,yE,e2])
 intro v' wa t J aR;obtain⟨g',cap',rfl⟩:=ownsRow_succ t;rw[az] at aR;obtain⟨bu,hd2,qa,ra,ca⟩:=adP (a0:=(y:Int)) (a1:=a8) (a2:=(mm:Int)) (a3:=a9) (d:=d) (n:=n) D9 gs9 hxx9 (by rw[hpv,hpn]) hpn hxs hxi (by omega) bv (by rw[hw11];exact J) t aR q9 (by rw[←hBn];exact c1x) r9;have ax:wa.cell? (Z G 1)=some (sq g9 0 n cap9)∧wa.cell? (Z g9 (en*6))=some (.slice la pn lcap):=⟨ca,qa⟩;refine⟨fun _=>ax,?_⟩;obtain⟨au,e30⟩:∃x,ar.put KM[29].dst (sq g' 0 (pn+1) cap')=x:=⟨_,rfl⟩;have ac:=ab.put 118 (sq g' 0 (pn+1) cap') e30 rfl (by decide);rw[e30];have bp:Hid (au=ar.put (some 118) (sq g' 0 (pn+1) cap')):=e30.symm;clear e30 ab;refine kC (i:=30) rfl rfl (by kernel_rfl) ?_;refine jt (v:=.pointer (some (Z g9 (en*6)))) (w':=wa) (Qh rfl (ac.at 25 rfl) (ac.at 24 rfl) (jN hen wa)) ?_;refine⟨fun _=>ax,?_⟩;obtain⟨a31,e31⟩:∃x,au.put KM[30].dst (.pointer (some (Z g9 (en*6))))=x:=⟨_,rfl⟩;have aN:=ac.put 119 (.pointer (some (Z g9 (en*6)))) e31 rfl (by decide);rw[e31];have bq:Hid (a31=au.put (some 119) (.pointer (some (Z g9 (en*6))))):=e31.symm;clear e31 ac;refine kC (i:=31) rfl rfl (by kernel_rfl) ?_;refine jt (v:=.pointer (some (Z g9 (en*6)))) (w':=wa) (Qi rfl (aN.at 0 rfl) (kP g9 (en*6) wa)) ?_;refine⟨fun _=>ax,?_⟩;obtain⟨aO,e32⟩:∃x,a31.put KM[31].dst (.pointer (some (Z g9 (en*6))))=x:=⟨_,rfl⟩;have aT:=aN.put 120 (.pointer (some (Z g9 (en*6)))) e32 rfl (by decide);rw[e32];have br:Hid (aO=a31.put (some 120) (.pointer (some (Z g9 (en*6))))):=e32.symm;clear e32 aN;refine kC (i:=32) rfl rfl (by kernel_rfl) ?_;refine qF (w':=wa.setCell (Z g9 (en*6)) (sq g' 0 (pn+1) cap')) (kV rfl (aT.at 0 rfl) (aT.at 2 rfl) (zO qa ra _ _ _)) ?_;refine⟨fun h=>absurd rfl h,zq (by kernel_rfl) ?_ _⟩;have ay:=hQ a8 a9 (sq w9.heap.size 0 2 2) (sq (w9.heap.size+1) 0 1 1) (sq g' 0 (pn+1) cap') _ _ (by rw[List.length_set]) bu ((FrD.fr f89 D.hC D.cur.lt).trans hd2) ⟨_,List.getElem?_set_self (by rw[hBn];exact hen),rfl⟩;show Q .normal aO _;rw[br.out,bq.out,bp.out,bo.out,bn.out,bm.out,bl.out,bk.out,bj.out,bi.out,bh.out,bg.out,bf.out,be.out,bd.out,bc.out,bb.out,aZ.out,aY.out,aX.out,aW.out,aV.out,aU.out,E9.out,E8.out,E7.out,E6.out,E5.out,E4.out,E3.out,E2.out,E1.out];exact ay
def onlyN (K:Act→World→Prop):Exit→Act→World→Prop
 | .normal,a,w=>K a w
 | _,_,_=>False
theorem Yd {P:Program}{ops:Array Oper}{Q:Exit→Act→World→Prop}(m:Nat)(S:World→Prop){id:Nat}{a:Act}{w:World}(hm:P.follows .mixedOrders=true)
  (h:xQ P .any ops (onlyN (fun a w=>Q .normal a w)) m S ops.size (Array.replicate ops.size false) a w.drew):(Code.region id ops true).wp P Q a w :=
 wp_mono (Y1 m S hm h) (fun e a w h=>by cases e <;> first | exact h | exact h.elim)
theorem l2If_of (C lo G d:Nat)(hcode:Kg C lo G d)(hd:d≤10)(bs:List Bk)(bn:Nat)(kv:Value)(l:List Int)(w0:World)(h:DSt w0 C lo G bs)(hb:bn<bs.length)(hn:bs.length+(3+2*Kc d)≤900)(hk:ja w0 lo kv l)(h0:0<l.length)(h1:l.length+18*(d+1)≤800) :
  Calls Tryz.prog 124 #[.pointer (some (Z G 0)),vi (bn:Int),kv,vi (d:Int)] w0 fun e w'=>QH C lo G bs l (3+2*Kc d) 2 w0 e w':=by
 have H:Hid (Kg C lo G d):=hcode;have D0:Hid (DSt w0 C lo G bs):=h;obtain⟨nb,HNB⟩:∃n,Hid (bs.length=n):=⟨_,rfl⟩;obtain⟨kn,HKN⟩:∃n,Hid (l.length=n):=⟨_,rfl⟩;obtain⟨kg,kcap,hkv⟩:=hk.isSlice h0;rw[HKN.out] at hkv;subst hkv;have aC:Hid (ja w0 lo (sq kg 0 kn kcap) l):=hk;rw[HNB.out] at hb hn;rw[HKN.out] at h0 h1;have M:=HKN;obtain⟨i0,hi,hz0,hz1,hz2⟩:=info_parts y7;have ce:100000≤maxLen:=by decide
 obtain⟨B0,HB0⟩:∃X,Hid (bs=X):=⟨_,rfl⟩;obtain⟨n0,hn0⟩:∃n,n=nb:=⟨_,rfl⟩;have aS:Hid (B0.length=n0):=by rw[←HB0.out,hn0];exact HNB.out
 rw[HB0.out] at D0;obtain⟨w,HW⟩:∃W,Hid (W=w0):=⟨_,rfl⟩;have F0:Hid (FrD C lo G w w0):=by rw[HW.out];exact FrD.refl _ _ _ _
 have bA:=D0.out.c0;obtain⟨kc,HKC⟩:∃k,Hid (Kc d=k):=⟨_,rfl⟩;rw[HKC.out] at hn;have cc:=HKC.out;clear h hk hcode;go_enter Tryz.func124,Tryz.ntmps124
 go_wp2_with fail
 refine(kG C lo G _ (sq kg 0 kn kcap) l _ D0.out aC.out (by have:=M.out;omega) (by have:=M.out;omega)).mono ?_;rintro e w1 ⟨d1,rfl,dd,hf⟩;have D1:Hid (DSt w1 C lo G B0):=dd;obtain⟨B1,HB1⟩:∃X,Hid (B0=X):=⟨_,rfl⟩;rw[HB1.out] at D1;have ak:Hid (B1.length=n0):=by rw[←HB1.out];exact aS.out
 obtain⟨n1,hn1⟩:∃n,n=n0:=⟨_,rfl⟩;rw[←hn1] at ak;have F1:Hid (FrD C lo G w w1):=F0.out.trans (FrD.fr hf D0.out.hC D0.out.cur.lt);have aX:Hid (ja w1 lo (sq kg 0 kn kcap) l):=jq aC.out (ju.fr hf D0.out.hC);have bB:=D1.out.c0;clear dd hf bA;go_wp2_with fail
 refine(qu C lo G _ _ D1.out (by have:=ak.out;omega)).mono ?_;rintro e w2 ⟨rfl,dd,ff⟩;rw[ak.out];have D2:Hid (DSt w2 C lo G (B1 ++ [bk0])):=dd;obtain⟨B2,HB2⟩:∃X,Hid (B1 ++ [bk0]=X):=⟨_,rfl⟩;rw[HB2.out] at D2;obtain⟨n2,hn2⟩:∃n,n=n1+1:=⟨_,rfl⟩;have ao:Hid (B2.length=n2):=by
  have h:=congrArg List.length HB2.out;rw[List.length_append,ak.out] at h;rw[hn2];exact h.symm
 obtain⟨yes,HQyes⟩:∃q,n1=q:=⟨_,rfl⟩;have F2:Hid (FrD C lo G w w2):=F1.out.trans ff;have aY:Hid (ja w2 lo (sq kg 0 kn kcap) l):=D1.out.known ff aX.out;have bC:=D2.out.c0;rw[HQyes];clear dd ff bB;go_wp2_with fail
 refine(qu C lo G _ _ D2.out (by have:=ao.out;omega)).mono ?_;rintro e w3 ⟨rfl,dd,ff⟩;rw[ao.out];have D3:Hid (DSt w3 C lo G (B2 ++ [bk0])):=dd;obtain⟨B3,HB3⟩:∃X,Hid (B2 ++ [bk0]=X):=⟨_,rfl⟩;rw[HB3.out] at D3;obtain⟨n3,hn3⟩:∃n,n=n2+1:=⟨_,rfl⟩;have ap:Hid (B3.length=n3):=by
  have h:=congrArg List.length HB3.out;rw[List.length_append,ao.out] at h;rw[hn3];exact h.symm
 obtain⟨no,HQno⟩:∃q,n2=q:=⟨_,rfl⟩;have F3:Hid (FrD C lo G w w3):=F2.out.trans ff;have aZ:Hid (ja w3 lo (sq kg 0 kn kcap) l):=D2.out.known ff aY.out;have bD:=D3.out.c0;rw[HQno];clear dd ff bC;obtain⟨g4,cap4,vals4,xx4,hxx4,gs4,c14,hlo4,hgl4,_,⟨u24,t24⟩,⟨u34,t34⟩,⟨u44,t44⟩,⟨u54,t54⟩,hfz4⟩:=D3.out.open (i:=bn) (by have:=ap.out;omega);have bT:=hfz4 (bn*6+2);have bW:=hfz4 (bn*6+3);have bZ:=hfz4 (bn*6+4);have b2:=hfz4 (bn*6+5);obtain⟨aF,ff⟩:=D3.out.xH gs4 hxx4 2 d1 (yes:Int) (no:Int);obtain⟨w4,hw4⟩:∃W,(((w3.setCell (Z g4 (bn*6+2)) (vi 2)).setCell (Z g4 (bn*6+3)) (vi d1)).setCell (Z g4 (bn*6+4)) (vi (yes:Int))).setCell (Z g4 (bn*6+5)) (vi (no:Int))=W:=⟨_,rfl⟩;rw[hw4] at aF ff;rw[ap.out] at c14;have aO:Hid (DSt w4 C lo G _):=aF;obtain⟨B4,HB4⟩:∃X,Hid (B3.set bn { xx4 with k:=2,a:=d1,t:=(yes:Int),e:=(no:Int) }=X):=⟨_,rfl⟩;have D4:Hid (DSt w4 C lo G B4):=by rw[←HB4.out];exact aO.out
 obtain⟨n4,hn4⟩:∃n,n=n3:=⟨_,rfl⟩;have aq:Hid (B4.length=n4):=by
  have h:=congrArg List.length HB4.out;rw[List.length_set,ap.out] at h;rw[hn4];exact h.symm
 have F4:Hid (FrD C lo G w w4):=F3.out.trans ff;have bK:(bn:Int)<(n3:Int):=by omega
 have aD:Hid (ja w4 lo (sq kg 0 kn kcap) l):=D3.out.known ff aZ.out;have bE:=D4.out.c0;clear aF aO hfz4 ff gs4;go_wp2_with fail
 try rw[hw4]
 clear hw4 t24 t34 t44 t54 bT bW bZ b2 c14 bD;refine(H.out B4 yes (sq kg 0 kn kcap) l _ D4.out (by have:=aq.out;omega) (by have:=aq.out;omega) aD.out (by have:=M.out;omega) (by have:=M.out;omega)).mono ?_;rintro e w5 ⟨y,kv5,ly,B5,rfl,hy1,hy2,hy3,dd,hk,hk0,K,ff⟩;have D5:Hid (DSt w5 C lo G B5):=dd;obtain⟨n5,HL5⟩:∃n,Hid (B5.length=n):=⟨_,rfl⟩;obtain⟨L,Hkny⟩:∃n,Hid (ly.length=n):=⟨_,rfl⟩;rw[HL5.out] at hy1 hy2 hy3;rw[aq.out] at hy2 hy3;rw[Hkny.out] at hk0 K;rw[M.out] at K;have Ry:=hy1;have b7:=hy2;have b9:=hy3;have bw:=hk0;have bz:=K;obtain⟨ad,caply,hkv5⟩:=hk.isSlice (by rw[Hkny.out];exact hk0);rw[Hkny.out] at hkv5;subst hkv5;have F5:Hid (FrD C lo G w w5):=F4.out.trans ff;have bd:Hid (ja w5 lo (sq ad 0 L caply) ly):=hk;have aE:Hid (ja w5 lo (sq kg 0 kn kcap) l):=D4.out.known ff aD.out;have bF:=D5.out.c0;clear dd ff hk hk0 K hy1 hy2 hy3 bE;go_wp2_with fail
 refine(H.out B5 no (sq kg 0 kn kcap) l _ D5.out (by have:=HL5.out;omega) (by have:=HL5.out;omega) aE.out (by have:=M.out;omega) (by have:=M.out;omega)).mono ?_;rintro e w6 ⟨m,kv6,lm,B6,rfl,hy1,hy2,hy3,dd,hk,hk0,K,ff⟩;have D6:Hid (DSt w6 C lo G B6):=dd;obtain⟨n6,HL6⟩:∃n,Hid (B6.length=n):=⟨_,rfl⟩;obtain⟨V,Hknm⟩:∃n,Hid (lm.length=n):=⟨_,rfl⟩;rw[HL6.out] at hy1 hy2 hy3;rw[HL5.out] at hy2 hy3;rw[Hknm.out] at hk0 K;rw[M.out] at K;have Rm:=hy1;have b6:=hy2;have b8:=hy3;have bv:=hk0;have bx:=K;obtain⟨ai,caplm,hkv6⟩:=hk.isSlice (by rw[Hknm.out];exact hk0);rw[Hknm.out] at hkv6;subst hkv6;have F6:Hid (FrD C lo G w w6):=F5.out.trans ff;have a7:Hid (ja w6 lo (sq ai 0 V caplm) lm):=hk;have a4:Hid (ja w6 lo (sq kg 0 kn kcap) l):=D5.out.known ff aE.out;have be:Hid (ja w6 lo (sq ad 0 L caply) ly):=D5.out.known ff bd.out;have bG:=D6.out.c0;clear dd ff hk hk0 K hy1 hy2 hy3 bF;go_wp2_with fail
 refine(qu C lo G _ _ D6.out (by have:=HL6.out;omega)).mono ?_;rintro e w7 ⟨rfl,dd,ff⟩;rw[HL6.out];have D7:Hid (DSt w7 C lo G (B6 ++ [bk0])):=dd;obtain⟨B7,HB7⟩:∃X,Hid (B6 ++ [bk0]=X):=⟨_,rfl⟩;rw[HB7.out] at D7;obtain⟨n7,hn7⟩:∃n,n=n6+1:=⟨_,rfl⟩;have ar:Hid (B7.length=n7):=by
  have h:=congrArg List.length HB7.out;rw[List.length_append,HL6.out] at h;rw[hn7];exact h.symm
 obtain⟨en,HQen⟩:∃q,n6=q:=⟨_,rfl⟩;have F7:Hid (FrD C lo G w w7):=F6.out.trans ff;have a5:Hid (ja w7 lo (sq kg 0 kn kcap) l):=D6.out.known ff a4.out;have bf:Hid (ja w7 lo (sq ad 0 L caply) ly):=D6.out.known ff be.out;have bb:Hid (ja w7 lo (sq ai 0 V caplm) lm):=D6.out.known ff a7.out;have bH:=D7.out.c0;rw[HQen];clear dd ff bG;obtain⟨g8,cap8,vals8,xx8,hxx8,gs8,c18,hlo8,hgl8,_,⟨u28,t28⟩,⟨u38,t38⟩,⟨u48,t48⟩,⟨u58,t58⟩,hfz8⟩:=D7.out.open (i:=y) (by have:=ar.out;omega);have bU:=hfz8 (y*6+2);have bX:=hfz8 (y*6+3);have b0:=hfz8 (y*6+4);have b3:=hfz8 (y*6+5);obtain⟨aG,ff⟩:=D7.out.xH gs8 hxx8 1 0 (en:Int) 0;obtain⟨w8,hw8⟩:∃W,(((w7.setCell (Z g8 (y*6+2)) (vi 1)).setCell (Z g8 (y*6+3)) (vi 0)).setCell (Z g8 (y*6+4)) (vi (en:Int))).setCell (Z g8 (y*6+5)) (vi 0)=W:=⟨_,rfl⟩;rw[hw8] at aG ff;rw[ar.out] at c18;have aP:Hid (DSt w8 C lo G _):=aG;obtain⟨B8,HB8⟩:∃X,Hid (B7.set y { xx8 with k:=1,a:=0,t:=(en:Int),e:=0 }=X):=⟨_,rfl⟩;have D8:Hid (DSt w8 C lo G B8):=by rw[←HB8.out];exact aP.out
 obtain⟨n8,hn8⟩:∃n,n=n7:=⟨_,rfl⟩;have au:Hid (B8.length=n8):=by
  have h:=congrArg List.length HB8.out;rw[List.length_set,ar.out] at h;rw[hn8];exact h.symm
 have F8:Hid (FrD C lo G w w8):=F7.out.trans ff;have bL:(y:Int)<(n7:Int):=by omega
 have a6:Hid (ja w8 lo (sq kg 0 kn kcap) l):=D7.out.known ff a5.out;have bg:Hid (ja w8 lo (sq ad 0 L caply) ly):=D7.out.known ff bf.out;have bc:Hid (ja w8 lo (sq ai 0 V caplm) lm):=D7.out.known ff bb.out;have bI:=D8.out.c0;clear aG aP hfz8 ff gs8;obtain⟨g9,cap9,vals9,xx9,hxx9,gs9,c19,hlo9,hgl9,_,⟨u29,t29⟩,⟨u39,t39⟩,⟨u49,t49⟩,⟨u59,t59⟩,hfz9⟩:=D8.out.open (i:=m) (by have:=au.out;omega);have bV:=hfz9 (m*6+2);have bY:=hfz9 (m*6+3);have b1:=hfz9 (m*6+4);have b4:=hfz9 (m*6+5);obtain⟨aH,ff⟩:=D8.out.xH gs9 hxx9 1 0 (en:Int) 0;obtain⟨w9,hw9⟩:∃W,(((w8.setCell (Z g9 (m*6+2)) (vi 1)).setCell (Z g9 (m*6+3)) (vi 0)).setCell (Z g9 (m*6+4)) (vi (en:Int))).setCell (Z g9 (m*6+5)) (vi 0)=W:=⟨_,rfl⟩;rw[hw9] at aH ff;rw[au.out] at c19;have aQ:Hid (DSt w9 C lo G _):=aH;obtain⟨B9,HB9⟩:∃X,Hid (B8.set m { xx9 with k:=1,a:=0,t:=(en:Int),e:=0 }=X):=⟨_,rfl⟩;have D9:Hid (DSt w9 C lo G B9):=by rw[←HB9.out];exact aQ.out
 obtain⟨n9,hn9⟩:∃n,n=n8:=⟨_,rfl⟩;have aT:Hid (B9.length=n9):=by
  have h:=congrArg List.length HB9.out;rw[List.length_set,au.out] at h;rw[hn9];exact h.symm
 have F9:Hid (FrD C lo G w w9):=F8.out.trans ff;have bM:(m:Int)<(n8:Int):=by omega
 have br:Hid (ja w9 lo (sq kg 0 kn kcap) l):=D8.out.known ff a6.out;have bu:Hid (ja w9 lo (sq ad 0 L caply) ly):=D8.out.known ff bg.out;have bt:Hid (ja w9 lo (sq ai 0 V caplm) lm):=D8.out.known ff bc.out;have ca:=D9.out.c0;clear aH aQ hfz9 ff gs9;go_wp2_with fail
 try rw[hw8]
 clear hw8 t28 t38 t48 t58 bU bX b0 b3 c18 bH;try rw[hw9]
 clear hw9 t29 t39 t49 t59 bV bY b1 b4 c19 bI;have bl:Hid (∃x,B9[en]?=some x∧x.pn=0):=by
  have h7:B7[en]?=some bk0:=by
   rw[←HB7.out,←HQen,←HL6.out];simp
  refine⟨bk0,?_,rfl⟩;rw[←HB9.out,List.getElem?_set_ne (by omega),←HB8.out,List.getElem?_set_ne (by omega)];exact h7
 have bo:Hid (∀wr,FrD C lo G w9 wr→ja wr lo (sq ad 0 L caply) ly):=fun wr hf=>D9.out.known hf bu.out
 have ay:Hid (∀wr,FrD C lo G w9 wr→ja wr lo (sq ai 0 V caplm) lm):=fun wr hf=>D9.out.known hf bt.out
 have ae:en<n9:=by omega
 have aU:Hid (n9=nb+0+(n9-nb)∧nb≤n9∧n9≤nb+(3+2*kc)):=⟨by omega,by omega,by omega⟩;have aL:0<L∧L≤1000:=⟨by omega,by omega⟩;have aK:0<V∧V≤1000:=⟨by omega,by omega⟩;have bP:kn+2≤900:=by omega
 have b5:Hid (B9.length=n9):=aT.out;clear H D0 D1 D2 D3 D4 D5 D6 D7 D8 F0 F1 F2 F3 F4 F5 F6 F7 F8 aC aX aY aZ aD aE a4 a5 a6 bd be bf bg a7 bb bc HB0 HB1 HB2 HB3 HB4 HB7 HB8 HB9 aS ak ao ap aq HL5 HL6 ar au;go_loopw [2,18] (fun kv i wr=>∃(k:Nat) (lk:List Int) (B:List Bk),k≤2∧i=vi k∧ja wr lo kv lk∧lk.length=kn+k∧DSt wr C lo G B∧B.length=n9∧(∃x,B[en]?=some x∧x.pn=k)∧FrD C lo G w9 wr) (fun _ i _=>2-(intOf i).toNat)
 case atStart=>exact⟨0,l,B9,by omega,rfl,br.out,(by rw[HKN.out];rfl),D9.out,aT.out,bl.out,FrD.refl _ _ _ _⟩
 case round=>
  obtain⟨k,lk,B,hk,rfl,hKk,hlk,hDD,hBL,hXX,hFF⟩:=hrel;have aA:Hid (lk.length=kn+k):=hlk;have DD:Hid (DSt wr C lo G B):=hDD;have ab:Hid (B.length=n9):=hBL;have bp:Hid (∃x,B[en]?=some x∧x.pn=k):=hXX;have FF:Hid (FrD C lo G w9 wr):=hFF;have cC:=hDD.c0;obtain⟨aj,kcap2,hu2⟩:=hKk.isSlice (by omega);obtain⟨kk,hkk⟩:∃kk,lk.length=kk:=⟨_,rfl⟩;have r:Hid (lk.length=kk):=hkk;have ax:Hid (kk=kn+k):=by rw[←hkk];exact hlk
  have aJ:kk≤950∧0<kk:=by have:=ax.out;omega
  rw[hkk] at hu2;subst hu2;have bm:Hid (ja wr lo (sq aj 0 kk kcap2) lk):=hKk;clear hKk hlk hDD hBL hXX hFF hkk;go_wp2_with fail
  refine(jH C 2 _ DD.out.cur).mono ?_;rintro e aM ⟨z,rfl,hz0',hz1',_,hf,hc⟩;have bR:=hz1' (by omega);have am:Hid (DSt aM C lo G B):=DD.out.draw hf hc;have aR:Hid (FrD C lo G w9 aM):=FF.out.trans (FrD.fr hf DD.out.hC DD.out.cur.lt);have aV:Hid (ja aM lo (sq aj 0 kk kcap2) lk):=jq bm.out (ju.fr hf DD.out.hC);have cb:=am.out.c0;clear hf hc cC hz1';by_cases cd:(k:Int)<1+z
  ·have ag:z=0∨z=1:=by omega
   have K:k≤1:=by omega
   rcases ag with rfl|rfl
   all_goals
    have bQ:(k:Int)<2:=by omega
    go_wp2_with fail
    refine(kU C lo G _ _ am.out).mono ?_;rintro e ah ⟨d,rfl,dd,ff⟩;have aa:Hid (DSt ah C lo G B):=dd;have aw:Hid (FrD C lo G w9 ah):=aR.out.trans ff;have bq:Hid (ja ah lo (sq aj 0 kk kcap2) lk):=am.out.known ff aV.out;clear dd ff;go_wp2_with fail
    obtain⟨x,hx,hxp⟩:=bp.out;obtain⟨g,cap,vals,x',hx',gs,c1,hlo,hgl,q0,_,_,_,_,hfz⟩:=aa.out.open (i:=en) (by rw[ab.out];exact ae);have ex:x'=x:=by rw[hx] at hx';exact(Option.some.inj hx').symm
    subst ex;obtain⟨xs,hxs,hxi,hn4⟩:=gs.phi en _ hx;obtain⟨la,lcap,hpv⟩:∃la lcap,x'.pv=.slice la x'.pn lcap:=by
     rcases hxs.2 with ⟨e1,e2⟩ | ⟨g',cap',cur,e1,_⟩
     ·exact⟨none,0,by rw[e1,e2]⟩
     ·exact⟨_,_,e1⟩
    rw[hxp] at hpv;rw[hpv] at q0;rw[ab.out] at c1;have bN:g≠C:=by have:=aa.out.hC;omega
    have bJ:G≠C:=by have h1:=aa.out.hC;have h2:=aa.out.hG;omega
    refine Yd 32 (fun W=>W.cell? (Z G 1)=some (sq g 0 n9 cap)∧W.cell? (Z g (en*6))=some (.slice la k lcap)) (by kernel_rfl) ?_;refine ifBody C lo G B en y m d (sq ad 0 L caply) (sq ai 0 V caplm) ly lm g n9 cap k lcap la x' _ ?_ ?_ ?_ ?_ ?_ ?_ ?_ ?_ ah.drew aa.out.drew ab.out ae hx hpv hxp (by omega) (bo.out ah aw.out) (ay.out ah aw.out) (by rw[Hkny.out];exact aL) (by rw[Hknm.out];exact aK) c1 q0 (hfz _) hgl aa.out.xx bN bJ _ ?_ ?_
    ·rfl
    ·rfl
    ·rfl
    ·rfl
    ·rfl
    ·rfl
    ·rfl
    ·rfl
    ·exact fun c a w h=>h
    intro a8 a9 A Ph v' W' B' bi bh ac bj;have ff:FrD C lo G ah W':=⟨⟨ac.bel.os,ac.bel.tape,ac.bel.output,ac.bel.size,ac.bel.block⟩,ac.block⟩;have an:Hid (DSt W' C lo G B'):=bh;have bk:Hid (FrD C lo G w9 W'):=aw.out.trans ff;have aW:Hid (ja W' lo (sq aj 0 kk kcap2) lk):=aa.out.known ff bq.out;have az:Hid (B'.length=n9):=bi.trans ab.out;have aB:Hid (∃x,B'[en]?=some x∧x.pn=k+1):=bj;clear bi bh ac bj ff gs hxs hxi c1 q0 hfz hpv hx hxp hlo hgl;simp only[onlyN,Act.put,Exit.then,sT,sS,sZ]
    go_at_K
    have KC:=aW.out.zx r.out;have bO:aj<W'.heap.size:=aW.out.ltg;have af:lo≤W'.heap.size:=by have h1:=an.out.hG;have h2:=an.out.xx;omega
    go_wp2_with (first | (at_builtin;refine wpList_append_own _ rfl _ _ 30 rfl W'.heap.size 3 i0 (vi 0) 1 8 Tryz.underlying30 hi hz0 hz1 hz2 rfl (by decide) _ 0 [] rfl (show World.ownsRow _ _ _ _ _ _ _ from ke rfl (Nat.le_refl _)) (Z aj 0) kk kcap2 (lk.map (fun x=>vi x)) rfl (by have:=r.out;simp;omega) (xM KC bO r.out) (by intro u hu;obtain⟨z,_,rfl⟩:=List.mem_map.1 hu;rfl) (by omega) (by omega) (by simp) ?_;intro va wa O I _;have OA:Hid (ja wa W'.heap.size va lk):=xN O r.out;have GA:Hid ((W'.alloc (.cells #[] 3)).grownBy wa (some W'.heap.size)):=I;clear O I) | (at_builtin;refine wpList_append_own _ rfl _ _ 30 rfl W'.heap.size 3 i0 (vi 0) 1 8 Tryz.underlying30 hi hz0 hz1 hz2 rfl (by decide) va kk (lk.map (fun x=>vi x)) rfl (World.ownsRow.alloc (by have h:=OA.out;unfold ja at h;rw[r.out] at h;exact h) _) (Z wa.heap.size 0) 1 1 [vi d] rfl rfl (cell_one_new _ _ _) (by simp[Value.oneCell']) (by omega) (by omega) (by have h:=GA.out.size;simp at h ⊢;omega) ?_;intro vb wb U J _;have OB:Hid (ja wb W'.heap.size vb (lk ++ [d])):=zc U r.out;have GB:Hid ((wa.alloc (.cells #[vi d] 3)).grownBy wb va.ownBlock):=J;clear U J))
    have bel:=qR GA.out GB.out OA.out;have aN:Hid (Below W'.heap.size W' wb):=bel;clear bel;go_roundw
    case rel=>exact⟨k+1,lk ++ [d],B',by omega,by go_num,OB.out.low af,by have:=aA.out;simp;omega,an.out.later aN.out,az.out,aB.out,bk.out.trans (FrD.later aN.out an.out.cur.lt)⟩
    case measure=>simp[intOf];omega
  ·have ag:z=0∨z=1:=by omega
   rcases ag with rfl|rfl
   all_goals
    go_wp2_with fail
    go_ret2
    refine⟨en,_,lk,B,rfl,by rw[ab.out];exact ae,by rw[ab.out,HNB.out];exact aU.out.2.1,by rw[ab.out,HNB.out,HKC.out];exact aU.out.2.2,am.out,aV.out,by have:=aA.out;omega,by have:=aA.out;have:=HKN.out;omega,?_⟩;rw[←HW.out];exact F9.out.trans aR.out
section
variable {P:Program} {o:Oper} {a:Act} {w:World} {K:Act→World→Prop} {Q:Exit→Act→World→Prop}
theorem wp_move {x:Operand}{v:Value}(ho:o.op=.move x)(hx:a.eval x=v)(h:K (a.put o.dst v) w):o.wp P a w K Q:=jt (by simp[execOp,ho,hx]) h
theorem agN {x:Operand}{ad:Addr}(ho:o.op=.nilCheck x)(hx:a.eval x=.pointer (some ad))(h:K (a.put o.dst (.pointer (some ad))) w):o.wp P a w K Q:=jt (by simp[execOp,ho,hx]) h
theorem jQ {x:Operand}{t:TypeId}{f:Nat}{p v:Value}(ho:o.op=.fieldAddr t x f)(hx:a.eval x=p)(hl:(Instr.fieldAt t p f).run P w=.ok v w)(h:K (a.put o.dst v) w):o.wp P a w K Q:=jt (Qi ho hx hl) h
theorem qK {x y:Operand}{t:TypeId}{p q v:Value}(ho:o.op=.indexAddr t x y)(hx:a.eval x=p)(hy:a.eval y=q)(hl:(Instr.indexAt t p q).run P w=.ok v w)(h:K (a.put o.dst v) w):o.wp P a w K Q:=jt (Qh ho hx hy hl) h
theorem qm {x:Operand}{t:TypeId}{p v:Value}(ho:o.op=.load t x)(hx:a.eval x=p)(hl:(Instr.loadAt t p).run P w=.ok v w)(h:K (a.put o.dst v) w):o.wp P a w K Q:=jt (by simp[execOp,ho,hx,hl]) h
theorem xX {x y:Operand}{t:TypeId}{p q v:Value}(ho:o.op=.build t #[(0,x),(1,y)])(hx:a.eval x=p)(hy:a.eval y=q)(hl:(Instr.build t #[(0,p),(1,q)]).run P w=.ok v w)(h:K (a.put o.dst v) w):o.wp P a w K Q:=jt (by simp[execOp,ho,hx,hy,hl]) h
theorem acR {t:TypeId}{x y z:Operand}{p q r v:Value}{w':World}(ho:o.op=.buildSlice t 3 #[(0,x),(1,y),(2,z)])(hx:a.eval x=p)(hy:a.eval y=q)(hz:a.eval z=r)(h:(Instr.buildSlice t 3 #[(0,p),(1,q),(2,r)]).run P w=.ok v w'):(execOp a.eval o).run P w=.ok (.value v) w':=by
 simp[execOp,ho,hx,hy,hz,h]
end
theorem acS {w:World}{G:Nat}{v:Value}(h:w.cell? (Z G 0)=some v):(Instr.loadAt 58 (.pointer (some (Z G 0)))).run Tryz.prog w=.ok v w:=by
 simp[Instr.loadAt,Instr.sureAddr,go_sem,h]
theorem agO (x y:Int)(w:World):(Instr.buildSlice 30 2 #[(0,vi x),(1,vi y)]).run Tryz.prog w=.ok (sq w.heap.size 0 2 2) (w.alloc (.cells #[vi x,vi y] 3)):=by
 simp[Instr.buildSlice,go_sem]
theorem agP (x y z:Int)(a b c:Nat)(w:World):(Instr.buildSlice 38 3 #[(0,.agg #[vi x,sq a 0 2 2]),(1,.agg #[vi y,sq b 0 2 2]),(2,.agg #[vi z,sq c 0 2 2])]).run Tryz.prog w=.ok (sq w.heap.size 0 3 3) (w.alloc (.cells #[vi x,sq a 0 2 2,vi y,sq b 0 2 2,vi z,sq c 0 2 2] 107)):=by
 simp[Instr.buildSlice,go_sem]
theorem kL.later {w w':World}{lo:Nat}{v:Value}{n:Nat}(h:kL w lo v n)(hb:Below w.heap.size w w'):kL w' lo v n:=h.lo (ju.later hb)
theorem agQ {w:World}{lo a b c:Nat}{x y z:Int}(hl:lo≤w.heap.size)(p1:kL w lo (sq a 0 2 2) 2)(p2:kL w lo (sq b 0 2 2) 2)(p3:kL w lo (sq c 0 2 2) 2) :
  qJ (w.alloc (.cells #[vi x,sq a 0 2 2,vi y,sq b 0 2 2,vi z,sq c 0 2 2] 107)) lo (sq w.heap.size 0 3 3) 3:=by
 refine⟨[vi x,sq a 0 2 2,vi y,sq b 0 2 2,vi z,sq c 0 2 2],⟨rfl,.inr ⟨_,3,_,rfl,hl,World.alloc_heap_new w _,Nat.le_refl _,by decide,rfl,rfl⟩⟩,fun j hj=>?_,by omega⟩;have h:j=0∨j=1∨j=2:=by omega
 rcases h with rfl|rfl|rfl
 ·exact⟨x,_,2,rfl,rfl,p1.later (Bel.alloc _ _),by omega⟩
 ·exact⟨y,_,2,rfl,rfl,p2.later (Bel.alloc _ _),by omega⟩
 ·exact⟨z,_,2,rfl,rfl,p3.later (Bel.alloc _ _),by omega⟩
theorem qJ.lo {w w':World}{lo:Nat}{v:Value}{n:Nat}(h:qJ w lo v n)(hk:ju lo w w'):qJ w' lo v n:=by
 obtain⟨xs,h1,h2,h3⟩:=h;refine⟨xs,jq h1 hk,fun j hj=>?_,h3⟩;obtain⟨d,av,al,e1,e2,e3⟩:=h2 j hj;exact⟨d,av,al,e1,e2,e3.lo hk⟩
noncomputable def opsL:Array Oper:=rF Tryz.f126 20
def TL (C lo G g n cap:Nat)(KA:Value)(bn hd ee:Nat)(st on iv xv yv nx vx vy:Int)(w0:World):List (Value→World→Prop) := [(fun v w=>v=.pointer (some (Z G 0))),(fun v w=>v=.pointer (some (Z G 0))),(fun v w=>v=.pointer (some (Z G 1))),(fun v w=>v=.pointer (some (Z G 1))),(fun v w=>v=sq g 0 n cap),(fun v w=>v=vi (hd:Int)),(fun v w=>v=vi iv),(fun v w=>v=vi (bn:Int)),(fun v w=>v=vi st),(fun v w=>v=.agg #[vi (bn:Int),vi st]),(fun v w=>v=vi (ee:Int)),(fun v w=>v=vi nx),(fun v w=>v=.agg #[vi (ee:Int),vi nx]),(fun v w=>∃b,v=sq b 0 2 2∧kL w lo v 2),(fun v w=>∃b,v=.agg #[vi iv,sq b 0 2 2]∧kL w lo (sq b 0 2 2) 2),(fun v w=>v=vi xv),(fun v w=>v=vi (bn:Int)),(fun v w=>v=.pointer (some (Z G 0))),(fun v w=>v=KA),(fun v w=>∃z:Int,v=vi z),(fun v w=>∃z:Int,v=.agg #[vi (bn:Int),vi z]),(fun v w=>v=vi (ee:Int)),(fun v w=>v=.pointer (some (Z G 0))),(fun v w=>v=.pointer (some (Z G 0))),(fun v w=>v=.pointer (some (Z G 0))),(fun v w=>v=.pointer (some (Z C 0))),(fun v w=>v=vi yv),(fun v w=>v=vi vx),(fun v w=>∃b,v=sq b 0 2 2∧b≠C∧b<w.heap.size∧w.cell? (Z b 0)=some (vi yv)∧w.cell? (Z b 1)=some (vi vx)),(fun v w=>∃z:Int,v=vi z),(fun v w=>∃z:Int,v=.agg #[vi (ee:Int),vi z]),(fun v w=>∃b,v=sq b 0 2 2∧kL w lo v 2),(fun v w=>∃b,v=.agg #[vi xv,sq b 0 2 2]∧kL w lo (sq b 0 2 2) 2),(fun v w=>v=vi yv),(fun v w=>v=vi (bn:Int)),(fun v w=>v=vi on),(fun v w=>v=.agg #[vi (bn:Int),vi on]),(fun v w=>v=vi (ee:Int)),(fun v w=>v=vi vy),(fun v w=>v=.agg #[vi (ee:Int),vi vy]),(fun v w=>∃b,v=sq b 0 2 2∧kL w lo v 2),(fun v w=>∃b,v=.agg #[vi yv,sq b 0 2 2]∧kL w lo (sq b 0 2 2) 2),(fun v w=>∃b,v=sq b 0 3 3∧w0.heap.size≤b∧qJ w lo v 3),(fun v w=>v=.pointer (some (Z g (hd*6)))),(fun v w=>v=.pointer (some (Z g (hd*6))))]
def TT (C lo G g n cap:Nat)(KA:Value)(bn hd ee:Nat)(st on iv xv yv nx vx vy:Int)(w0:World)(j:Nat)(v:Value)(w:World):Prop:=((TL C lo G g n cap KA bn hd ee st on iv xv yv nx vx vy w0).getD j (fun _ _=>True)) v w
theorem agR : ∀(i:Nat) (o:Oper),opsL[i]?=some o→∀e∈o.after,e.on<i:=by
 have h:(List.range 46).all (fun i=>match opsL[i]? with | some o=>o.after.all (fun e=>decide (e.on<i)) | none=>true)=true:=by kernel_rfl
 intro i o ho e he;have hi:i<46:=(aI ho).1;have:=List.all_eq_true.1 h i (List.mem_range.2 hi);rw[ho] at this;simp only[Array.all_eq_true'] at this;simpa using this e he
theorem afz : ∀(i:Nat) (o:Oper),opsL[i]?=some o→o.guard=none:=by
 have h:(List.range 46).all (fun i=>match opsL[i]? with | some o=>o.guard.isNone | none=>true)=true:=by kernel_rfl
 intro i o ho;have hi:i<46:=(aI ho).1;have:=List.all_eq_true.1 h i (List.mem_range.2 hi);rw[ho] at this;simpa using this
theorem opsL_all : ∀li:Array Bool,zD .any opsL li→(∀o,opsL[45]?=some o→∀e∈o.after,Region.binds .any e=true→li.getD e.on false=true)→∀j,j<45→li.getD j false=true:=by
 intro li hc hl j hj;have hlast:∀i,jb .any opsL 45 i=true→li.getD i false=true:=fun i hi=>by
  obtain⟨e,he,hb,h2⟩:=jD hi (Array.getElem?_eq_getElem (by decide:45<opsL.size));rw[←h2];exact hl _ (Array.getElem?_eq_getElem (by decide:45<opsL.size)) e he hb
 by_cases r:j=43
 ·subst r;have t:=hlast 44 (by kernel_rfl);obtain⟨e,he,hb,h2⟩:=jD (md:=.any) (ops:=opsL) (m:=44) (i:=43) (by kernel_rfl) (Array.getElem?_eq_getElem (by decide:44<opsL.size));rw[←h2];exact hc 44 _ (Array.getElem?_eq_getElem (by decide:44<opsL.size)) t e he hb
 ·have h:(List.range 45).all (fun i=>i == 43 || jb .any opsL 45 i)=true:=by kernel_rfl
  have:=List.all_eq_true.1 h j (List.mem_range.2 hj);simp[r] at this;exact hlast j this
theorem TT_stab (C lo G g n cap:Nat)(KA:Value)(bn hd ee:Nat)(st on iv xv yv nx vx vy:Int)(w0:World)(hC:C<lo):∀j v w w',TT C lo G g n cap KA bn hd ee st on iv xv yv nx vx vy w0 j v w→Fr C w w'→TT C lo G g n cap KA bn hd ee st on iv xv yv nx vx vy w0 j v w':=by
 intro j v w w' h hf;have hk:=ju.fr hf hC;by_cases hj:j<45
 ·have r:j=0∨j=1∨j=2∨j=3∨j=4∨j=5∨j=6∨j=7∨j=8∨j=9∨j=10∨j=11∨j=12∨j=13∨j=14∨j=15∨j=16∨j=17∨j=18∨j=19∨j=20∨j=21∨j=22∨j=23∨j=24∨j=25∨j=26∨j=27∨j=28∨j=29∨j=30∨j=31∨j=32∨j=33∨j=34∨j=35∨j=36∨j=37∨j=38∨j=39∨j=40∨j=41∨j=42∨j=43∨j=44:=by omega
  rcases r with rfl|rfl|rfl|rfl|rfl|rfl|rfl|rfl|rfl|rfl|rfl|rfl|rfl|rfl|rfl|rfl|rfl|rfl|rfl|rfl|rfl|rfl|rfl|rfl|rfl|rfl|rfl|rfl|rfl|rfl|rfl|rfl|rfl|rfl|rfl|rfl|rfl|rfl|rfl|rfl|rfl|rfl|rfl|rfl|rfl
  ·exact h
  ·exact h
  ·exact h
  ·exact h
  ·exact h
  ·exact h
  ·exact h
  ·exact h
  ·exact h
  ·exact h
  ·exact h
  ·exact h
  ·exact h
  ·obtain⟨b,h1,h2⟩:=h;exact⟨b,h1,h2.lo hk⟩
  ·obtain⟨b,h1,h2⟩:=h;exact⟨b,h1,h2.lo hk⟩
  ·exact h
  ·exact h
  ·exact h
  ·exact h
  ·obtain⟨z,h1⟩:=h;exact⟨z,h1⟩
  ·obtain⟨z,h1⟩:=h;exact⟨z,h1⟩
  ·exact h
  ·exact h
  ·exact h
  ·exact h
  ·exact h
  ·exact h
  ·exact h
  ·obtain⟨b,h1,h2,h3,h4,h5⟩:=h;exact⟨b,h1,h2,Nat.lt_of_lt_of_le h3 hf.size,(hf.cell (x:=(Z b 0)) h3 h2).trans h4,(hf.cell (x:=(Z b 1)) h3 h2).trans h5⟩
  ·obtain⟨z,h1⟩:=h;exact⟨z,h1⟩
  ·obtain⟨z,h1⟩:=h;exact⟨z,h1⟩
  ·obtain⟨b,h1,h2⟩:=h;exact⟨b,h1,h2.lo hk⟩
  ·obtain⟨b,h1,h2⟩:=h;exact⟨b,h1,h2.lo hk⟩
  ·exact h
  ·exact h
  ·exact h
  ·exact h
  ·exact h
  ·exact h
  ·exact h
  ·obtain⟨b,h1,h2⟩:=h;exact⟨b,h1,h2.lo hk⟩
  ·obtain⟨b,h1,h2⟩:=h;exact⟨b,h1,h2.lo hk⟩
  ·obtain⟨b,h1,h2,h3⟩:=h;exact⟨b,h1,h2,h3.lo hk⟩
  ·exact h
  ·exact h
 ·unfold TT at h ⊢;have hlen:(TL C lo G g n cap KA bn hd ee st on iv xv yv nx vx vy w0).length=45:=rfl;rw[List.getD_eq_getElem?_getD,List.getElem?_eq_none (by omega)]
  trivial
theorem loopBody (C lo G g n cap:Nat)(KA:Value)(bn hd ee:Nat)(st on iv xv yv nx vx vy:Int)(w0:World)(B:List Bk)(l:List Int)(x:Bk)(vals:Int)(a0:Act)(hsz:a0.tmps.size=173)(h0:a0.eval (.tmp 0)=.pointer (some (Z G 0)))(h1:a0.eval (.tmp 1)=vi (bn:Int))(h2:a0.eval (.tmp 2)=KA)(h10:a0.eval (.tmp 10)=vi st)(h11:a0.eval (.tmp 11)=vi on)(h12:a0.eval (.tmp 12)=vi (hd:Int))(h14:a0.eval (.tmp 14)=vi iv)(h15:a0.eval (.tmp 15)=vi xv)(h16:a0.eval (.tmp 16)=vi yv)(h18:a0.eval (.tmp 18)=vi (ee:Int))(h20:a0.eval (.tmp 20)=vi nx)(h22:a0.eval (.tmp 22)=vi vx)(h23:a0.eval (.tmp 23)=vi vy)
  (D:DSt w0 C lo G B) (hBn:B.length=n) (hhd:hd<n) (hx:B[hd]?=some x) (gs:jE w0 C lo G (sq g 0 B.length cap) B vals) (ka:ja w0 lo KA l) (hl:0<l.length∧l.length≤1000)
  (q0:w0.cell? (Z g (hd*6))=some x.pv) (r0:w0.frozen? (Z g (hd*6))=false) (hgw:g<w0.heap.size) (hgC:g≠C) (hGC:G≠C)
  (Q:Exit→Act→World→Prop) (hQ:∀(f:Nat→Value) (W':World) (B':List Bk),B'.length=B.length→DSt W' C lo G B'→FrD C lo G w0 W'→Q .normal (aaa a0 (List.range' 126 45) f) W') :
  wpAny Tryz.prog .any opsL Q 46 (Array.replicate 46 false) a0 w0:=by
 have L:G<w0.heap.size:=D.xx;have V:∀w,Cur w C∧Fr C w0 w→w.cell? (Z G 1)=some (sq g 0 n cap):=fun w hS=>by
  have h:=gs.cells.2.1;rw[hBn] at h;exact(hS.2.cell (x:=(Z G 1)) L hGC).trans h
 have U:∀w,Cur w C∧Fr C w0 w→w.cell? (Z G 0)=some (.pointer (some (Z C 0))):=fun w hS=>(hS.2.cell (x:=(Z G 0)) L hGC).trans gs.cells.1
 have J:∀w,Cur w C∧Fr C w0 w→DSt w C lo G B:=fun w hS=>D.draw hS.2 hS.1
 have H:∀w (ob:Obj),Cur w C∧Fr C w0 w→Cur (w.alloc ob) C∧Fr C w0 (w.alloc ob):=fun w ob hS=>⟨hS.1.later (Bel.alloc _ _),hS.2.trans (Fr.xW (Bel.alloc _ _))⟩
 have r:∀w,Cur w C∧Fr C w0 w→lo≤w.heap.size:=fun w hS=>by have h1:=D.hG;have h2:=hS.2.size;omega
 refine yJ (N:=45) (s0:=126) (a0:=a0) (S:=fun w=>Cur w C∧Fr C w0 w) (R:=Fr C) (T:=TT C lo G g n cap KA bn hd ee st on iv xv yv nx vx vy w0) (Post:=fun W=>∃B':List Bk,B'.length=B.length∧DSt W C lo G B'∧FrD C lo G w0 W)
  rfl (by omega) agR afz opsL_all (TT_stab C lo G g n cap KA bn hd ee st on iv xv yv nx vx vy w0 D.hC) ?hop ?hlast ?hQ 46 _ a0 w0 (by simp) ⟨by simp,fun j o ho hj=>?cl,rfl,rfl,fun _ _=>rfl,.inl ⟨by simp,⟨D.cur,Fr.refl _ _⟩,fun j hj M=>?nt⟩⟩
 case cl=>
  have:(Array.replicate 46 false).getD j false=false:=by simp[Array.getD]
  rw[this] at hj;cases hj
 case nt=>
  have:(Array.replicate 46 false).getD j false=false:=by simp[Array.getD]
  rw[this] at M;cases M
 case hQ=>
  rintro a w e1 e2 e3 ⟨B',b1,b2,b3⟩;rw[zF e1 e2 e3];exact hQ _ w B' b1 b2 b3
 case hlast=>
  intro o ho a w es eo hS hT K hK;obtain⟨_,rfl⟩:=aI ho;obtain⟨b,d0,hb0,hph⟩:=hT 42 (by omega);have d1:=hT 44 (by omega);have qw:w.cell? (Z g (hd*6))=some x.pv:=(hS.2.cell (x:=(Z g (hd*6))) hgw hgC).trans q0;have ab:w.frozen? (Z g (hd*6))=false:=(hS.2.frozen (x:=(Z g (hd*6))) hgw hgC).trans r0;have I:qJ w lo (sq b 0 3 3) 3:=by rw[←d0];exact hph
  have gw:jE w C lo G (sq g 0 B.length cap) B vals:=gs.lo D.hG (ju.fr hS.2 D.hC)
  have O:=(J w hS).agL gw hx I (fun m y hy=>by
   obtain⟨ys,hys,_⟩:=gs.phi m y hy;refine⟨fun k hk e=>?_,fun k hk e=>?_⟩
   ·have h1:=k9 hys k e;have h2:b=k:=by simpa [Value.ownBlock] using hk
    omega
   ·have h1:=k9 hys k hk;have h2:b=k:=by simpa [Value.ownBlock] using e
    omega)
  refine qF (kV rfl d1 d0 (zO qw ab _ _ _)) (hK _ ⟨_,List.length_set,O.1,(FrD.fr hS.2 D.hC D.cur.lt).trans O.2⟩)
 case hop=>
  intro j hj o ho a w es eo hS hT K hK;have ev:∀t:Nat,t<126→a.eval (.tmp t)=a0.eval (.tmp t):=fun t ht=>by
   show a.tmps.getD t undef=a0.tmps.getD t undef;rw[Array.getD_eq_getD_getElem?,Array.getD_eq_getD_getElem?,eo t (.inl ht)]
  have X:j=0∨j=1∨j=2∨j=3∨j=4∨j=5∨j=6∨j=7∨j=8∨j=9∨j=10∨j=11∨j=12∨j=13∨j=14∨j=15∨j=16∨j=17∨j=18∨j=19∨j=20∨j=21∨j=22∨j=23∨j=24∨j=25∨j=26∨j=27∨j=28∨j=29∨j=30∨j=31∨j=32∨j=33∨j=34∨j=35∨j=36∨j=37∨j=38∨j=39∨j=40∨j=41∨j=42∨j=43∨j=44:=by omega
  rcases X with rfl|rfl|rfl|rfl|rfl|rfl|rfl|rfl|rfl|rfl|rfl|rfl|rfl|rfl|rfl|rfl|rfl|rfl|rfl|rfl|rfl|rfl|rfl|rfl|rfl|rfl|rfl|rfl|rfl|rfl|rfl|rfl|rfl|rfl|rfl|rfl|rfl|rfl|rfl|rfl|rfl|rfl|rfl|rfl|rfl
  ·obtain⟨_,rfl⟩:=aI ho;exact wp_move rfl ((ev 0 (by omega)).trans h0) (hK _ _ (Fr.refl C w) hS rfl)
  ·obtain⟨_,rfl⟩:=aI ho;have d0:=hT 0 (by omega) (by kernel_rfl);exact agN rfl d0 (hK _ _ (Fr.refl C w) hS rfl)
  ·obtain⟨_,rfl⟩:=aI ho;have d0:=hT 1 (by omega) (by kernel_rfl);exact jQ rfl d0 (yG G w) (hK _ _ (Fr.refl C w) hS rfl)
  ·obtain⟨_,rfl⟩:=aI ho;have d0:=hT 2 (by omega) (by kernel_rfl);exact jQ rfl d0 (jR G 1 w) (hK _ _ (Fr.refl C w) hS rfl)
  ·obtain⟨_,rfl⟩:=aI ho;have d0:=hT 3 (by omega) (by kernel_rfl);exact qm rfl d0 (ye (V w hS)) (hK _ _ (Fr.refl C w) hS rfl)
  ·obtain⟨_,rfl⟩:=aI ho;exact wp_move rfl ((ev 12 (by omega)).trans h12) (hK _ _ (Fr.refl C w) hS rfl)
  ·obtain⟨_,rfl⟩:=aI ho;exact wp_move rfl ((ev 14 (by omega)).trans h14) (hK _ _ (Fr.refl C w) hS rfl)
  ·obtain⟨_,rfl⟩:=aI ho;exact wp_move rfl ((ev 1 (by omega)).trans h1) (hK _ _ (Fr.refl C w) hS rfl)
  ·obtain⟨_,rfl⟩:=aI ho;exact wp_move rfl ((ev 10 (by omega)).trans h10) (hK _ _ (Fr.refl C w) hS rfl)
  ·obtain⟨_,rfl⟩:=aI ho;have d0:=hT 7 (by omega) (by kernel_rfl);have d1:=hT 8 (by omega) (by kernel_rfl);exact xX rfl d0 d1 (qe _ _ w) (hK _ _ (Fr.refl C w) hS rfl)
  ·obtain⟨_,rfl⟩:=aI ho;exact wp_move rfl ((ev 18 (by omega)).trans h18) (hK _ _ (Fr.refl C w) hS rfl)
  ·obtain⟨_,rfl⟩:=aI ho;exact wp_move rfl ((ev 20 (by omega)).trans h20) (hK _ _ (Fr.refl C w) hS rfl)
  ·obtain⟨_,rfl⟩:=aI ho;have d0:=hT 10 (by omega) (by kernel_rfl);have d1:=hT 11 (by omega) (by kernel_rfl);exact xX rfl d0 d1 (qe _ _ w) (hK _ _ (Fr.refl C w) hS rfl)
  ·obtain⟨_,rfl⟩:=aI ho;have d0:=hT 9 (by omega) (by kernel_rfl);have d1:=hT 12 (by omega) (by kernel_rfl);exact jt (yH rfl d0 d1 (Xo _ _ _ _ w)) (hK _ _ (Fr.xW (Bel.alloc w _)) (H w _ hS) ⟨_,rfl,kL.two (World.alloc_heap_new w _) (r w hS)⟩)
  ·obtain⟨_,rfl⟩:=aI ho;have d0:=hT 6 (by omega) (by kernel_rfl);obtain⟨b,d1,d2⟩:=hT 13 (by omega) (by kernel_rfl);have d3:kL w lo (sq b 0 2 2) 2:=by rw[←d1];exact d2
   exact xX rfl d0 d1 (yX _ _ _ _ w) (hK _ _ (Fr.refl C w) hS ⟨b,rfl,d3⟩)
  ·obtain⟨_,rfl⟩:=aI ho;exact wp_move rfl ((ev 15 (by omega)).trans h15) (hK _ _ (Fr.refl C w) hS rfl)
  ·obtain⟨_,rfl⟩:=aI ho;exact wp_move rfl ((ev 1 (by omega)).trans h1) (hK _ _ (Fr.refl C w) hS rfl)
  ·obtain⟨_,rfl⟩:=aI ho;exact wp_move rfl ((ev 0 (by omega)).trans h0) (hK _ _ (Fr.refl C w) hS rfl)
  ·obtain⟨_,rfl⟩:=aI ho;exact wp_move rfl ((ev 2 (by omega)).trans h2) (hK _ _ (Fr.refl C w) hS rfl)
  ·obtain⟨_,rfl⟩:=aI ho;have d0:=hT 17 (by omega) (by kernel_rfl);have d1:=hT 18 (by omega) (by kernel_rfl);refine jx (f:=107) (args := #[.pointer (some (Z G 0)),KA]) (kY rfl d0 d1 (enters_of Tryz.func107 (by kernel_rfl) rfl) _) (kG C lo G B KA l w (J w hS) (jq ka (ju.fr hS.2 D.hC)) hl.1 hl.2) ?_;rintro e w1 ⟨z,rfl,dd,hf⟩;exact⟨_,rfl,hK _ _ hf ⟨dd.cur,hS.2.trans hf⟩ ⟨z,rfl⟩⟩
  ·obtain⟨_,rfl⟩:=aI ho;have d0:=hT 16 (by omega) (by kernel_rfl);obtain⟨z,d1⟩:=hT 19 (by omega) (by kernel_rfl);exact xX rfl d0 d1 (qe _ _ w) (hK _ _ (Fr.refl C w) hS ⟨z,rfl⟩)
  ·obtain⟨_,rfl⟩:=aI ho;exact wp_move rfl ((ev 18 (by omega)).trans h18) (hK _ _ (Fr.refl C w) hS rfl)
  ·obtain⟨_,rfl⟩:=aI ho;exact wp_move rfl ((ev 0 (by omega)).trans h0) (hK _ _ (Fr.refl C w) hS rfl)
  ·obtain⟨_,rfl⟩:=aI ho;have d0:=hT 22 (by omega) (by kernel_rfl);exact agN rfl d0 (hK _ _ (Fr.refl C w) hS rfl)
  ·obtain⟨_,rfl⟩:=aI ho;have d0:=hT 23 (by omega) (by kernel_rfl);exact jQ rfl d0 (aaW G w) (hK _ _ (Fr.refl C w) hS rfl)
  ·obtain⟨_,rfl⟩:=aI ho;have d0:=hT 24 (by omega) (by kernel_rfl);exact qm rfl d0 (acS (U w hS)) (hK _ _ (Fr.refl C w) hS rfl)
  ·obtain⟨_,rfl⟩:=aI ho;exact wp_move rfl ((ev 16 (by omega)).trans h16) (hK _ _ (Fr.refl C w) hS rfl)
  ·obtain⟨_,rfl⟩:=aI ho;exact wp_move rfl ((ev 22 (by omega)).trans h22) (hK _ _ (Fr.refl C w) hS rfl)
  ·obtain⟨_,rfl⟩:=aI ho;have d0:=hT 26 (by omega) (by kernel_rfl);have d1:=hT 27 (by omega) (by kernel_rfl);exact jt (yH rfl d0 d1 (agO _ _ w)) (hK _ _ (Fr.xW (Bel.alloc w _)) (H w _ hS) ⟨_,rfl,by have:=hS.1.lt;omega,by simp,by simp[go_sem],by simp[go_sem]⟩)
  ·obtain⟨_,rfl⟩:=aI ho;have d0:=hT 25 (by omega) (by kernel_rfl);obtain⟨b,d1,hb,hbl,e0,e1⟩:=hT 28 (by omega) (by kernel_rfl);refine jx (f:=86) (args := #[.pointer (some (Z C 0)),sq b 0 2 2]) (kY rfl d0 d1 (enters_of Tryz.func86 (by kernel_rfl) rfl) _) (yt C b [yv,vx] 2 w hS.1 hb rfl (by omega) (by omega) (fun k hk=>?_)) ?_
   ·have aa:k=0∨k=1:=by omega
    rcases aa with rfl|rfl
    ·exact e0
    ·exact e1
   ·rintro e w1 ⟨z,rfl,_,hf,hc⟩;exact⟨_,rfl,hK _ _ hf ⟨hc,hS.2.trans hf⟩ ⟨z,rfl⟩⟩
  ·obtain⟨_,rfl⟩:=aI ho;have d0:=hT 21 (by omega) (by kernel_rfl);obtain⟨z,d1⟩:=hT 29 (by omega) (by kernel_rfl);exact xX rfl d0 d1 (qe _ _ w) (hK _ _ (Fr.refl C w) hS ⟨z,rfl⟩)
  ·obtain⟨_,rfl⟩:=aI ho;obtain⟨z0,d0⟩:=hT 20 (by omega) (by kernel_rfl);obtain⟨z1,d1⟩:=hT 30 (by omega) (by kernel_rfl);exact jt (yH rfl d0 d1 (Xo _ _ _ _ w)) (hK _ _ (Fr.xW (Bel.alloc w _)) (H w _ hS) ⟨_,rfl,kL.two (World.alloc_heap_new w _) (r w hS)⟩)
  ·obtain⟨_,rfl⟩:=aI ho;have d0:=hT 15 (by omega) (by kernel_rfl);obtain⟨b,d1,d2⟩:=hT 31 (by omega) (by kernel_rfl);have d3:kL w lo (sq b 0 2 2) 2:=by rw[←d1];exact d2
   exact xX rfl d0 d1 (yX _ _ _ _ w) (hK _ _ (Fr.refl C w) hS ⟨b,rfl,d3⟩)
  ·obtain⟨_,rfl⟩:=aI ho;exact wp_move rfl ((ev 16 (by omega)).trans h16) (hK _ _ (Fr.refl C w) hS rfl)
  ·obtain⟨_,rfl⟩:=aI ho;exact wp_move rfl ((ev 1 (by omega)).trans h1) (hK _ _ (Fr.refl C w) hS rfl)
  ·obtain⟨_,rfl⟩:=aI ho;exact wp_move rfl ((ev 11 (by omega)).trans h11) (hK _ _ (Fr.refl C w) hS rfl)
  ·obtain⟨_,rfl⟩:=aI ho;have d0:=hT 34 (by omega) (by kernel_rfl);have d1:=hT 35 (by omega) (by kernel_rfl);exact xX rfl d0 d1 (qe _ _ w) (hK _ _ (Fr.refl C w) hS rfl)
  ·obtain⟨_,rfl⟩:=aI ho;exact wp_move rfl ((ev 18 (by omega)).trans h18) (hK _ _ (Fr.refl C w) hS rfl)
  ·obtain⟨_,rfl⟩:=aI ho;exact wp_move rfl ((ev 23 (by omega)).trans h23) (hK _ _ (Fr.refl C w) hS rfl)
  ·obtain⟨_,rfl⟩:=aI ho;have d0:=hT 37 (by omega) (by kernel_rfl);have d1:=hT 38 (by omega) (by kernel_rfl);exact xX rfl d0 d1 (qe _ _ w) (hK _ _ (Fr.refl C w) hS rfl)
  ·obtain⟨_,rfl⟩:=aI ho;have d0:=hT 36 (by omega) (by kernel_rfl);have d1:=hT 39 (by omega) (by kernel_rfl);exact jt (yH rfl d0 d1 (Xo _ _ _ _ w)) (hK _ _ (Fr.xW (Bel.alloc w _)) (H w _ hS) ⟨_,rfl,kL.two (World.alloc_heap_new w _) (r w hS)⟩)
  ·obtain⟨_,rfl⟩:=aI ho;have d0:=hT 33 (by omega) (by kernel_rfl);obtain⟨b,d1,d2⟩:=hT 40 (by omega) (by kernel_rfl);have d3:kL w lo (sq b 0 2 2) 2:=by rw[←d1];exact d2
   exact xX rfl d0 d1 (yX _ _ _ _ w) (hK _ _ (Fr.refl C w) hS ⟨b,rfl,d3⟩)
  ·obtain⟨_,rfl⟩:=aI ho;obtain⟨b1,d1,p1⟩:=hT 14 (by omega) (by kernel_rfl);obtain⟨b2,d2,p2⟩:=hT 32 (by omega) (by kernel_rfl);obtain⟨b3,d3,p3⟩:=hT 41 (by omega) (by kernel_rfl);exact jt (acR rfl d1 d2 d3 (agP _ _ _ _ _ _ w)) (hK _ _ (Fr.xW (Bel.alloc w _)) (H w _ hS) ⟨_,rfl,hS.2.size,agQ (r w hS) p1 p2 p3⟩)
  ·obtain⟨_,rfl⟩:=aI ho;have d0:=hT 4 (by omega) (by kernel_rfl);have d1:=hT 5 (by omega) (by kernel_rfl);exact qK rfl d0 d1 (jN hhd w) (hK _ _ (Fr.refl C w) hS rfl)
  ·obtain⟨_,rfl⟩:=aI ho;have d0:=hT 43 (by omega) (by kernel_rfl);exact jQ rfl d0 (kP g (hd*6) w) (hK _ _ (Fr.refl C w) hS rfl)
theorem agS (w:World)(x y z:Int):∀j,j<3→(w.alloc (.cells #[vi x,vi y,vi z] 3)).cell? (Z w.heap.size j)=some (vi ([x,y,z].getD j 0)):=by
 intro j hj;have h3:j=0∨j=1∨j=2:=by omega
 rcases h3 with rfl|rfl|rfl <;> simp
theorem agT (C lo G d:Nat)(hcode:Kg C lo G d)(hd:d≤10)(bs:List Bk)(bn:Nat)(kv:Value)(l:List Int)(w0:World)(h:DSt w0 C lo G bs)(hb:bn<bs.length)(hn:bs.length+(3+Kc d)≤900)(hk:ja w0 lo kv l)(h0:0<l.length)(h1:l.length+(3+18*(d+1))≤800) :
  Calls Tryz.prog 126 #[.pointer (some (Z G 0)),vi (bn:Int),kv,vi (d:Int)] w0 fun e w'=>QH C lo G bs l (3+Kc d) 3 w0 e w':=by
 have ah:Hid (Kg C lo G d):=hcode;have D0:Hid (DSt w0 C lo G bs):=h;obtain⟨nb,HNB⟩:∃n,Hid (bs.length=n):=⟨_,rfl⟩;obtain⟨kn,HKN⟩:∃n,Hid (l.length=n):=⟨_,rfl⟩;obtain⟨kg,kcap,hkv⟩:=hk.isSlice h0;rw[HKN.out] at hkv;subst hkv;have cl:Hid (ja w0 lo (sq kg 0 kn kcap) l):=hk;rw[HNB.out] at hb hn;rw[HKN.out] at h0 h1;have cL:=HKN;obtain⟨i0,hi,hz0,hz1,hz2⟩:=info_parts y7;have dj:100000≤maxLen:=by decide
 obtain⟨B0,HB0⟩:∃X,Hid (bs=X):=⟨_,rfl⟩;obtain⟨n0,hn0⟩:∃n,n=nb:=⟨_,rfl⟩;have cj:Hid (B0.length=n0):=by rw[←HB0.out,hn0];exact HNB.out
 rw[HB0.out] at D0;obtain⟨w,HW⟩:∃W,Hid (W=w0):=⟨_,rfl⟩;have F0:Hid (FrD C lo G w w0):=by rw[HW.out];exact FrD.refl _ _ _ _
 have cR:=D0.out.c0;obtain⟨kc,HKC⟩:∃k,Hid (Kc d=k):=⟨_,rfl⟩;rw[HKC.out] at hn;have di:=HKC.out;clear h hk hcode;go_enter Tryz.func126,Tryz.ntmps126
 go_wp2_with fail
 refine(kU C lo G _ _ D0.out).mono ?_;rintro e w1 ⟨st,rfl,dd,ff⟩;have D1:Hid (DSt w1 C lo G B0):=dd;obtain⟨B1,HB1⟩:∃X,Hid (B0=X):=⟨_,rfl⟩;rw[HB1.out] at D1;have bB:Hid (B1.length=n0):=by rw[←HB1.out];exact cj.out
 obtain⟨n1,hn1⟩:∃n,n=n0:=⟨_,rfl⟩;rw[←hn1] at bB;have F1:Hid (FrD C lo G w w1):=F0.out.trans ff;have cm:Hid (ja w1 lo (sq kg 0 kn kcap) l):=D0.out.known ff cl.out;have cS:=D1.out.c0;clear dd ff cR;go_wp2_with fail
 refine(kU C lo G _ _ D1.out).mono ?_;rintro e w2 ⟨on,rfl,dd,ff⟩;have D2:Hid (DSt w2 C lo G B1):=dd;obtain⟨B2,HB2⟩:∃X,Hid (B1=X):=⟨_,rfl⟩;rw[HB2.out] at D2;have bD:Hid (B2.length=n1):=by rw[←HB2.out];exact bB.out
 obtain⟨n2,hn2⟩:∃n,n=n1:=⟨_,rfl⟩;rw[←hn2] at bD;have F2:Hid (FrD C lo G w w2):=F1.out.trans ff;have cn:Hid (ja w2 lo (sq kg 0 kn kcap) l):=D1.out.known ff cm.out;have cU:=D2.out.c0;clear dd ff cS;go_wp2_with fail
 refine(jH C 5 _ D2.out.cur).mono ?_;rintro e w3 ⟨z5,rfl,_,_,_,hf,hc⟩;have D3:Hid (DSt w3 C lo G B2):=D2.out.draw hf hc;obtain⟨B3,HB3⟩:∃X,Hid (B2=X):=⟨_,rfl⟩;rw[HB3.out] at D3;have aS:Hid (B3.length=n2):=by rw[←HB3.out];exact bD.out
 obtain⟨n3,hn3⟩:∃n,n=n2:=⟨_,rfl⟩;rw[←hn3] at aS;have F3:Hid (FrD C lo G w w3):=F2.out.trans (FrD.fr hf D2.out.hC D2.out.cur.lt);have co:Hid (ja w3 lo (sq kg 0 kn kcap) l):=jq cn.out (ju.fr hf D2.out.hC);have cV:=D3.out.c0;clear hf hc cU;go_wp2_with fail
 refine(qk C lo G _ bn 20 st 0 0 z5 _ D3.out (by rw[aS.out];omega) (by rw[aS.out];omega)).mono ?_;rintro e w4 ⟨v4,B4,rfl,hl,dd,ff⟩;have D4:Hid (DSt w4 C lo G B4):=dd;obtain⟨n4,hn4⟩:∃n,n=n3:=⟨_,rfl⟩;have br:Hid (B4.length=n4):=by rw[hn4];exact hl.trans aS.out
 have F4:Hid (FrD C lo G w w4):=F3.out.trans ff;have cp:Hid (ja w4 lo (sq kg 0 kn kcap) l):=D3.out.known ff co.out;have cW:=D4.out.c0;clear hl dd ff cV;go_wp2_with fail
 refine(qk C lo G _ bn 20 on 0 0 1 _ D4.out (by rw[br.out];omega) (by rw[br.out];omega)).mono ?_;rintro e w5 ⟨v5,B5,rfl,hl,dd,ff⟩;have D5:Hid (DSt w5 C lo G B5):=dd;obtain⟨n5,hn5⟩:∃n,n=n4:=⟨_,rfl⟩;have bt:Hid (B5.length=n5):=by rw[hn5];exact hl.trans br.out
 have F5:Hid (FrD C lo G w w5):=F4.out.trans ff;have cq:Hid (ja w5 lo (sq kg 0 kn kcap) l):=D4.out.known ff cp.out;have cX:=D5.out.c0;clear hl dd ff cW;go_wp2_with fail
 refine(qu C lo G _ _ D5.out (by have:=bt.out;omega)).mono ?_;rintro e w6 ⟨rfl,dd,ff⟩;rw[bt.out];have D6:Hid (DSt w6 C lo G (B5 ++ [bk0])):=dd;obtain⟨B6,HB6⟩:∃X,Hid (B5 ++ [bk0]=X):=⟨_,rfl⟩;rw[HB6.out] at D6;obtain⟨n6,hn6⟩:∃n,n=n5+1:=⟨_,rfl⟩;have bu:Hid (B6.length=n6):=by
  have h:=congrArg List.length HB6.out;rw[List.length_append,bt.out] at h;rw[hn6];exact h.symm
 obtain⟨r,HQhd2⟩:∃q,n5=q:=⟨_,rfl⟩;have F6:Hid (FrD C lo G w w6):=F5.out.trans ff;have cr:Hid (ja w6 lo (sq kg 0 kn kcap) l):=D5.out.known ff cq.out;have cY:=D6.out.c0;rw[HQhd2];clear dd ff cX;go_wp2_with fail
 refine(qu C lo G _ _ D6.out (by have:=bu.out;omega)).mono ?_;rintro e w7 ⟨rfl,dd,ff⟩;rw[bu.out];have D7:Hid (DSt w7 C lo G (B6 ++ [bk0])):=dd;obtain⟨B7,HB7⟩:∃X,Hid (B6 ++ [bk0]=X):=⟨_,rfl⟩;rw[HB7.out] at D7;obtain⟨n7,hn7⟩:∃n,n=n6+1:=⟨_,rfl⟩;have bv:Hid (B7.length=n7):=by
  have h:=congrArg List.length HB7.out;rw[List.length_append,bu.out] at h;rw[hn7];exact h.symm
 obtain⟨bo,HQbo⟩:∃q,n6=q:=⟨_,rfl⟩;have F7:Hid (FrD C lo G w w7):=F6.out.trans ff;have cs:Hid (ja w7 lo (sq kg 0 kn kcap) l):=D6.out.known ff cr.out;have cZ:=D7.out.c0;rw[HQbo];clear dd ff cY;obtain⟨g8,cap8,vals8,xx8,hxx8,gs8,c18,hlo8,hgl8,_,⟨u28,t28⟩,⟨u38,t38⟩,⟨u48,t48⟩,⟨u58,t58⟩,hfz8⟩:=D7.out.open (i:=bn) (by have:=bv.out;omega);have dc:=hfz8 (bn*6+2);have de:=hfz8 (bn*6+3);have df:=hfz8 (bn*6+4);have dg:=hfz8 (bn*6+5);obtain⟨bU,ff⟩:=D7.out.xH gs8 hxx8 1 0 (r:Int) 0;obtain⟨w8,hw8⟩:∃W,(((w7.setCell (Z g8 (bn*6+2)) (vi 1)).setCell (Z g8 (bn*6+3)) (vi 0)).setCell (Z g8 (bn*6+4)) (vi (r:Int))).setCell (Z g8 (bn*6+5)) (vi 0)=W:=⟨_,rfl⟩;rw[hw8] at bU ff;rw[bv.out] at c18;have b9:Hid (DSt w8 C lo G _):=bU;obtain⟨B8,HB8⟩:∃X,Hid (B7.set bn { xx8 with k:=1,a:=0,t:=(r:Int),e:=0 }=X):=⟨_,rfl⟩;have D8:Hid (DSt w8 C lo G B8):=by rw[←HB8.out];exact b9.out
 obtain⟨n8,hn8⟩:∃n,n=n7:=⟨_,rfl⟩;have ck:Hid (B8.length=n8):=by
  have h:=congrArg List.length HB8.out;rw[List.length_set,bv.out] at h;rw[hn8];exact h.symm
 have F8:Hid (FrD C lo G w w8):=F7.out.trans ff;have c6:(bn:Int)<(n7:Int):=by omega
 have ct:Hid (ja w8 lo (sq kg 0 kn kcap) l):=D7.out.known ff cs.out;have c2:=D8.out.c0;clear bU b9 hfz8 ff gs8;go_wp2_with fail
 try rw[hw8]
 clear hw8 t28 t38 t48 t58 dc de df dg c18 cZ;refine(kU C lo G _ _ D8.out).mono ?_;rintro e w9 ⟨iv,rfl,dd,ff⟩;have D9:Hid (DSt w9 C lo G B8):=dd;obtain⟨B9,HB9⟩:∃X,Hid (B8=X):=⟨_,rfl⟩;rw[HB9.out] at D9;have bE:Hid (B9.length=n8):=by rw[←HB9.out];exact ck.out
 obtain⟨n9,hn9⟩:∃n,n=n8:=⟨_,rfl⟩;rw[←hn9] at bE;have F9:Hid (FrD C lo G w w9):=F8.out.trans ff;have cu:Hid (ja w9 lo (sq kg 0 kn kcap) l):=D8.out.known ff ct.out;have c3:=D9.out.c0;clear dd ff c2;go_wp2_with fail
 refine(kU C lo G _ _ D9.out).mono ?_;rintro e b6 ⟨xv,rfl,dd,ff⟩;have aM:Hid (DSt b6 C lo G B9):=dd;obtain⟨bx,HB10⟩:∃X,Hid (B9=X):=⟨_,rfl⟩;rw[HB10.out] at aM;have ap:Hid (bx.length=n9):=by rw[←HB10.out];exact bE.out
 obtain⟨cD,hn10⟩:∃n,n=n9:=⟨_,rfl⟩;rw[←hn10] at ap;have ca:Hid (FrD C lo G w b6):=F9.out.trans ff;have aU:Hid (ja b6 lo (sq kg 0 kn kcap) l):=D9.out.known ff cu.out;have bK:=aM.out.c0;clear dd ff c3;go_wp2_with fail
 refine(kU C lo G _ _ aM.out).mono ?_;rintro e H ⟨yv,rfl,dd,ff⟩;have V:Hid (DSt H C lo G bx):=dd;obtain⟨bz,HB11⟩:∃X,Hid (bx=X):=⟨_,rfl⟩;rw[HB11.out] at V;have aQ:Hid (bz.length=cD):=by rw[←HB11.out];exact ap.out
 obtain⟨cE,hn11⟩:∃n,n=cD:=⟨_,rfl⟩;rw[←hn11] at aQ;have cb:Hid (FrD C lo G w H):=ca.out.trans ff;have ac:Hid (ja H lo (sq kg 0 kn kcap) l):=aM.out.known ff aU.out;have bL:=V.out.c0;clear dd ff bK;clear D0 F0 cl D1 F1 cm D2 F2 cn D3 F3 co D4 F4 cp D5 F5 cq D6 F6 cr D7 F7 cs D8 F8 ct D9 F9 cu aM ca aU cj bB bD aS br bt bu bv ck bE ap HB0 HB1 HB2 HB3 HB6 HB7 HB8 HB9 HB10 HB11;have KC:=ac.out.zx HKN.out;have cB:kg<H.heap.size:=ac.out.ltg;have aC:lo≤H.heap.size:=by have h1:=V.out.hG;have h2:=V.out.xx;omega
 go_wp2_with (first | (at_builtin;refine wpList_append_own _ rfl _ _ 30 rfl H.heap.size 3 i0 (vi 0) 1 8 Tryz.underlying30 hi hz0 hz1 hz2 rfl (by decide) _ 0 [] rfl (show World.ownsRow _ _ _ _ _ _ _ from ke rfl (Nat.le_refl _)) (Z kg 0) kn kcap (l.map (fun x=>vi x)) rfl (by have:=HKN.out;simp;omega) (xM KC cB HKN.out) (by intro u hu;obtain⟨z,_,rfl⟩:=List.mem_map.1 hu;rfl) (by omega) (by omega) (by simp) ?_;intro va wa ai L _;have OA:Hid (ja wa H.heap.size va l):=xN ai HKN.out;have GA:Hid ((H.alloc (.cells #[] 3)).grownBy wa (some H.heap.size)):=L;clear ai L) | (at_builtin;refine wpList_append_own _ rfl _ _ 30 rfl H.heap.size 3 i0 (vi 0) 1 8 Tryz.underlying30 hi hz0 hz1 hz2 rfl (by decide) va kn (l.map (fun x=>vi x)) rfl (World.ownsRow.alloc (by have h:=OA.out;unfold ja at h;rw[HKN.out] at h;exact h) _) (Z wa.heap.size 0) 3 3 [vi iv,vi xv,vi yv] rfl rfl (zN _ _ _ _ _) (by simp[Value.oneCell']) (by omega) (by omega) (by have h:=GA.out.size;simp at h ⊢;omega) ?_;intro vb wb aj M _;have OB:Hid (ja wb H.heap.size vb (l ++ [iv,xv,yv])):=Qg aj HKN.out;have GB:Hid ((wa.alloc (.cells #[vi iv,vi xv,vi yv] 3)).grownBy wb va.ownBlock):=M;have BB:Hid (Below H.heap.size H wb):=qR GA.out GB.out OA.out;obtain⟨aG,hw12⟩:∃W,wb=W:=⟨_,rfl⟩;rw[hw12] at OB BB ⊢;clear GB hw12 aj M;have O3:Hid (ja aG lo vb (l ++ [iv,xv,yv])):=OB.out.low aC;obtain⟨B,HLIN⟩:∃x,Hid (l ++ [iv,xv,yv]=x):=⟨_,rfl⟩;rw[HLIN.out] at O3;have bj:B.length=kn+3:=(by rw[←HLIN.out,List.length_append,HKN.out];rfl);obtain⟨g3,cap3,hv3⟩:=O3.out.isSlice (by omega);obtain⟨ki,hki⟩:∃n,B.length=n:=⟨_,rfl⟩;rw[hki] at hv3 bj;have aT:Hid (B.length=ki):=hki;have c9:ki≤kn+3:=(by omega);have da:kn+3≤ki:=(by omega);subst hv3;clear hki bj))
 have aD:Hid (DSt aG C lo G bz):=V.out.later BB.out;obtain⟨b7,HB12⟩:∃X,Hid (bz=X):=⟨_,rfl⟩;rw[HB12.out] at aD;have aa:Hid (b7.length=cE):=by rw[←HB12.out];exact aQ.out
 obtain⟨dk,hn12⟩:∃n,n=cE:=⟨_,rfl⟩;rw[←hn12] at aa;have cc:Hid (FrD C lo G w aG):=cb.out.trans (FrD.later BB.out V.out.cur.lt);have ff:FrD C lo G H aG:=FrD.later BB.out V.out.cur.lt;have ay:Hid (ja aG lo (sq g3 0 ki cap3) B):=O3.out;have aV:Hid (ja aG lo (sq kg 0 kn kcap) l):=V.out.known ff ac.out;have bM:=aD.out.c0;clear ff bL KC cB OA GA OB O3;go_wp2_with fail
 refine(ah.out b7 bo (sq g3 0 ki cap3) B _ aD.out (by have:=aa.out;omega) (by have:=aa.out;omega) ay.out (by have:=aT.out;omega) (by have:=aT.out;omega)).mono ?_;rintro e bk ⟨ee,kv13,le,B13,rfl,hy1,hy2,hy3,dd,hk,hk0,hk1,ff⟩;have aE:Hid (DSt bk C lo G B13):=dd;obtain⟨cF,HL13⟩:∃n,Hid (B13.length=n):=⟨_,rfl⟩;obtain⟨O,Hkne⟩:∃n,Hid (le.length=n):=⟨_,rfl⟩;rw[HL13.out] at hy1 hy2 hy3;rw[aa.out] at hy2 hy3;rw[Hkne.out] at hk0 hk1;rw[aT.out] at hk1;have dh:=hy1;have cP:=hy2;have cQ:=hy3;have cN:=hk0;have cO:=hk1;obtain⟨ad,caple,hkv13⟩:=hk.isSlice (by rw[Hkne.out];exact hk0);rw[Hkne.out] at hkv13;subst hkv13;have cd:Hid (FrD C lo G w bk):=cc.out.trans ff;have a6:Hid (ja bk lo (sq ad 0 O caple) le):=hk;have aW:Hid (ja bk lo (sq kg 0 kn kcap) l):=aD.out.known ff aV.out;have bc:Hid (ja bk lo (sq g3 0 ki cap3) B):=aD.out.known ff ay.out;have bN:=aE.out.c0;clear dd ff hk hk0 hk1 hy1 hy2 hy3 bM;go_wp2_with fail
 refine(kU C lo G _ _ aE.out).mono ?_;rintro e bl ⟨nx,rfl,dd,ff⟩;have am:Hid (DSt bl C lo G B13):=dd;obtain⟨cG,HB14⟩:∃X,Hid (B13=X):=⟨_,rfl⟩;rw[HB14.out] at am;have ab:Hid (cG.length=cF):=by rw[←HB14.out];exact HL13.out
 obtain⟨db,hn14⟩:∃n,n=cF:=⟨_,rfl⟩;rw[←hn14] at ab;have ce:Hid (FrD C lo G w bl):=cd.out.trans ff;have aX:Hid (ja bl lo (sq kg 0 kn kcap) l):=aE.out.known ff aW.out;have bd:Hid (ja bl lo (sq g3 0 ki cap3) B):=aE.out.known ff bc.out;have a7:Hid (ja bl lo (sq ad 0 O caple) le):=aE.out.known ff a6.out;have bO:=am.out.c0;clear dd ff bN;go_wp2_with fail
 refine(qk C lo G _ ee 2 nx iv on 0 _ am.out (by rw[ab.out];omega) (by rw[ab.out];omega)).mono ?_;rintro e aH ⟨dl,B15,rfl,hl,dd,ff⟩;have an:Hid (DSt aH C lo G B15):=dd;obtain⟨n15,hn15⟩:∃n,n=db:=⟨_,rfl⟩;have aq:Hid (B15.length=n15):=by rw[hn15];exact hl.trans ab.out
 have cf:Hid (FrD C lo G w aH):=ce.out.trans ff;have aY:Hid (ja aH lo (sq kg 0 kn kcap) l):=am.out.known ff aX.out;have be:Hid (ja aH lo (sq g3 0 ki cap3) B):=am.out.known ff bd.out;have a8:Hid (ja aH lo (sq ad 0 O caple) le):=am.out.known ff a7.out;have bP:=an.out.c0;clear hl dd ff bO;obtain⟨g16,cap16,vals16,xx16,hxx16,gs16,c116,hlo16,hgl16,_,⟨u216,t216⟩,⟨u316,t316⟩,⟨u416,t416⟩,⟨u516,t516⟩,hfz16⟩:=an.out.open (i:=ee) (by have:=aq.out;omega);have bY:=hfz16 (ee*6+2);have b0:=hfz16 (ee*6+3);have b2:=hfz16 (ee*6+4);have b4:=hfz16 (ee*6+5);obtain⟨az,ff⟩:=an.out.xH gs16 hxx16 1 0 (r:Int) 0;obtain⟨aJ,hw16⟩:∃W,(((aH.setCell (Z g16 (ee*6+2)) (vi 1)).setCell (Z g16 (ee*6+3)) (vi 0)).setCell (Z g16 (ee*6+4)) (vi (r:Int))).setCell (Z g16 (ee*6+5)) (vi 0)=W:=⟨_,rfl⟩;rw[hw16] at az ff;rw[aq.out] at c116;have aN:Hid (DSt aJ C lo G _):=az;obtain⟨bm,HB16⟩:∃X,Hid (B15.set ee { xx16 with k:=1,a:=0,t:=(r:Int),e:=0 }=X):=⟨_,rfl⟩;have aF:Hid (DSt aJ C lo G bm):=by rw[←HB16.out];exact aN.out
 obtain⟨n16,hn16⟩:∃n,n=n15:=⟨_,rfl⟩;have ar:Hid (bm.length=n16):=by
  have h:=congrArg List.length HB16.out;rw[List.length_set,aq.out] at h;rw[hn16];exact h.symm
 have cg:Hid (FrD C lo G w aJ):=cf.out.trans ff;have cz:(ee:Int)<(n15:Int):=by omega
 have aZ:Hid (ja aJ lo (sq kg 0 kn kcap) l):=an.out.known ff aY.out;have bf:Hid (ja aJ lo (sq g3 0 ki cap3) B):=an.out.known ff be.out;have a9:Hid (ja aJ lo (sq ad 0 O caple) le):=an.out.known ff a8.out;have bQ:=aF.out.c0;clear az aN hfz16 ff gs16;go_wp2_with fail
 try rw[hw16]
 clear hw16 t216 t316 t416 t516 bY b0 b2 b4 c116 bP;refine(qu C lo G _ _ aF.out (by have:=ar.out;omega)).mono ?_;rintro e aK ⟨rfl,dd,ff⟩;rw[ar.out];have af:Hid (DSt aK C lo G (bm ++ [bk0])):=dd;obtain⟨b8,HB17⟩:∃X,Hid (bm ++ [bk0]=X):=⟨_,rfl⟩;rw[HB17.out] at af;obtain⟨n17,hn17⟩:∃n,n=n16+1:=⟨_,rfl⟩;have au:Hid (b8.length=n17):=by
  have h:=congrArg List.length HB17.out;rw[List.length_append,ar.out] at h;rw[hn17];exact h.symm
 obtain⟨en,HQen⟩:∃q,n16=q:=⟨_,rfl⟩;have ch:Hid (FrD C lo G w aK):=cg.out.trans ff;have a4:Hid (ja aK lo (sq kg 0 kn kcap) l):=aF.out.known ff aZ.out;have bg:Hid (ja aK lo (sq g3 0 ki cap3) B):=aF.out.known ff bf.out;have bb:Hid (ja aK lo (sq ad 0 O caple) le):=aF.out.known ff a9.out;have bR:=af.out.c0;rw[HQen];clear dd ff bQ;obtain⟨g18,cap18,vals18,xx18,hxx18,gs18,c118,hlo18,hgl18,_,⟨u218,t218⟩,⟨u318,t318⟩,⟨u418,t418⟩,⟨u518,t518⟩,hfz18⟩:=af.out.open (i:=r) (by have:=au.out;omega);have bZ:=hfz18 (r*6+2);have b1:=hfz18 (r*6+3);have b3:=hfz18 (r*6+4);have b5:=hfz18 (r*6+5);obtain⟨aA,ff⟩:=af.out.xH gs18 hxx18 2 iv (bo:Int) (en:Int);obtain⟨aL,hw18⟩:∃W,(((aK.setCell (Z g18 (r*6+2)) (vi 2)).setCell (Z g18 (r*6+3)) (vi iv)).setCell (Z g18 (r*6+4)) (vi (bo:Int))).setCell (Z g18 (r*6+5)) (vi (en:Int))=W:=⟨_,rfl⟩;rw[hw18] at aA ff;rw[au.out] at c118;have aO:Hid (DSt aL C lo G _):=aA;obtain⟨bp,HB18⟩:∃X,Hid (b8.set r { xx18 with k:=2,a:=iv,t:=(bo:Int),e:=(en:Int) }=X):=⟨_,rfl⟩;have ag:Hid (DSt aL C lo G bp):=by rw[←HB18.out];exact aO.out
 obtain⟨n18,hn18⟩:∃n,n=n17:=⟨_,rfl⟩;have bC:Hid (bp.length=n18):=by
  have h:=congrArg List.length HB18.out;rw[List.length_set,au.out] at h;rw[hn18];exact h.symm
 have ci:Hid (FrD C lo G w aL):=ch.out.trans ff;have cA:(r:Int)<(n17:Int):=by omega
 have a5:Hid (ja aL lo (sq kg 0 kn kcap) l):=af.out.known ff a4.out;have bh:Hid (ja aL lo (sq g3 0 ki cap3) B):=af.out.known ff bg.out;have ax:Hid (ja aL lo (sq ad 0 O caple) le):=af.out.known ff bb.out;have bT:=ag.out.c0;clear aA aO hfz18 ff gs18;go_wp2_with fail
 try rw[hw18]
 clear hw18 t218 t318 t418 t518 bZ b1 b3 b5 c118 bR;refine(kG C lo G _ (sq ad 0 O caple) le _ ag.out ax.out (by have:=Hkne.out;omega) (by have:=Hkne.out;omega)).mono ?_;rintro e U ⟨vx,rfl,dd,hf⟩;have I:Hid (DSt U C lo G bp):=dd;obtain⟨ae,HB19⟩:∃X,Hid (bp=X):=⟨_,rfl⟩;rw[HB19.out] at I;have aR:Hid (ae.length=n18):=by rw[←HB19.out];exact bC.out
 obtain⟨n19,hn19⟩:∃n,n=n18:=⟨_,rfl⟩;rw[←hn19] at aR;have cI:Hid (FrD C lo G w U):=ci.out.trans (FrD.fr hf ag.out.hC ag.out.cur.lt);have bF:Hid (ja U lo (sq kg 0 kn kcap) l):=jq a5.out (ju.fr hf ag.out.hC);have bI:Hid (ja U lo (sq g3 0 ki cap3) B):=jq bh.out (ju.fr hf ag.out.hC);have bH:Hid (ja U lo (sq ad 0 O caple) le):=jq ax.out (ju.fr hf ag.out.hC);have cT:=I.out.c0;clear dd hf bT;go_wp2_with fail
 have K:Hid (nb≤n19∧n19≤nb+(3+kc)∧en<n19∧r<n19):=⟨by omega,by omega,by omega,by omega⟩;have c8:0<O∧O≤1000:=⟨by omega,by omega⟩;have bW:0<kn∧kn≤1000:=⟨by omega,by omega⟩;have J:Hid (ae.length=n19):=aR.out;have cv:=I.out.c0;have bV:C<U.heap.size:=I.out.cur.lt;have c4:G≠C:=by have h1:=I.out.hC;have h2:=I.out.hG;omega
 have c5:G<U.heap.size:=I.out.xx;clear ah V aD aE am an aF af ag cb cc cd ce cf cg ch ci ac aV aW aX aY aZ a4 a5 ay bc bd be bf bg bh a6 a7 a8 a9 bb ax
 go_region_held3 (fun w'=>w'.cell? (Z G 0)=some (.pointer (some (Z C 0)))) (first | exact qC _ bi | go_keep)
  (first
   | (go_at_call 86;refine(yt C bw.heap.size [xv,a20,xv] 3 _ (bq.out.cur.later (Bel.alloc _ _)) (by have:=bq.out.cur.lt;omega) rfl (by omega) (by omega) (agS _ _ _ _)).mono ?_;rintro e ak ⟨vy,rfl,_,hf0,hc0⟩;have aP:Hid (DSt ak C lo G ae):=(bq.out.later (Bel.alloc _ _)).draw hf0 hc0;have ao:Hid (Fr C U ak):=bA.out.trans ((Fr.xW (Bel.alloc _ _)).trans hf0);have cw:=aP.out.c0;clear hf0 hc0)
   | (go_at_call 107;refine(kG C lo G ae (sq ad 0 O caple) le _ I.out.drew (by exact bH.out) (by have:=Hkne.out;omega) (by have:=Hkne.out;omega)).mono ?_;rintro e bw ⟨a20,rfl,dd,hf0⟩;have hf:Fr C U bw:=Fr.mk hf0.os hf0.tape hf0.output hf0.size hf0.block;have bq:Hid (DSt bw C lo G ae):=dd;have bA:Hid (Fr C U bw):=hf;have bi:=bq.out.c0;clear dd hf0 hf))
 go_wp2_with fail
 have bG:Hid (ja ak lo (sq kg 0 kn kcap) l):=jq bF.out (ju.fr ao.out I.out.hC);have bJ:Hid (ja ak lo (sq g3 0 ki cap3) B):=jq bI.out (ju.fr ao.out I.out.hC);have cJ:Hid (FrD C lo G w ak):=cI.out.trans (FrD.fr ao.out I.out.hC bV);obtain⟨g,cap,vals,x,hx,gs,c1,hlo,hgl,q0,_,_,_,_,hfz⟩:=aP.out.open (i:=r) (by rw[J.out];exact K.out.2.2.2);have c7:g≠C:=by have:=aP.out.hC;omega
 have cy:jE ak.drew C lo G (sq g 0 ae.length cap) ae vals:=⟨gs.box,gs.row,gs.ins,gs.phi,gs.apL,gs.apP⟩;refine wp_region_any (by kernel_rfl) ?_;refine loopBody C lo G g n19 cap (sq kg 0 kn kcap) bn r ee st on iv xv yv nx vx vy ak.drew ae l x vals _ ?_ ?_ ?_ ?_ ?_ ?_ ?_ ?_ ?_ ?_ ?_ ?_ ?_ ?_ aP.out.drew J.out K.out.2.2.2 hx cy (by exact bG.out) (by rw[cL.out];exact bW) (by exact q0) (hfz _) (by exact hgl) c7 c4 _ ?_
 ·rfl
 ·rfl
 ·rfl
 ·rfl
 ·rfl
 ·rfl
 ·rfl
 ·rfl
 ·rfl
 ·rfl
 ·rfl
 ·rfl
 ·rfl
 ·rfl
 intro f W' B' cC cx aB;have ff:FrD C lo G ak W':=⟨⟨aB.bel.os,aB.bel.tape,aB.bel.output,aB.bel.size,aB.bel.block⟩,aB.block⟩;have cH:Hid (DSt W' C lo G B'):=cx;have cK:Hid (FrD C lo G w W'):=cJ.out.trans ff;have cM:Hid (ja W' lo (sq g3 0 ki cap3) B):=aP.out.known ff bJ.out;have aw:Hid (B'.length=n19):=cC.trans J.out;clear cC cx aB ff gs cy c1 q0 hfz hx hlo hgl;have bX:List.range' 126 45 = [126,127,128,129,130,131,132,133,134,135,136,137,138,139,140,141,142,143,144,145,146,147,148,149,150,151,152,153,154,155,156,157,158,159,160,161,162,163,164,165,166,167,168,169,170]:=rfl;simp only[aaa,bX,List.foldl_cons,List.foldl_nil,Act.put,Exit.then,sT,sS,sZ]
 go_at_K
 go_wp2_with fail
 go_ret2
 refine⟨en,_,B,B',rfl,by rw[aw.out];exact K.out.2.2.1,by rw[aw.out,HNB.out];exact K.out.1,by rw[aw.out,HNB.out];exact K.out.2.1,cH.out,cM.out,by have:=aT.out;omega,by have:=aT.out;have:=HKN.out;omega,?_⟩;rw[←HW.out];exact cK.out
theorem agU (C lo G:Nat):Kg C lo G 0:=by
 intro bs bn kv l w h hb hn hk h0 h1;have D0:Hid (DSt w C lo G bs):=h;obtain⟨nb,HNB⟩:∃n,Hid (bs.length=n):=⟨_,rfl⟩;obtain⟨kn,HKN⟩:∃n,Hid (l.length=n):=⟨_,rfl⟩;have K0:Hid (ja w lo kv l):=hk;rw[HNB.out] at hb hn;rw[HKN.out] at h0 h1;have V:nb≤900:=by simpa [Kc] using hn
 have K:=D0.out.c0;clear h hk hn;go_enter Tryz.func106,Tryz.ntmps106
 go_wp2_with fail
 refine(jH C 5 _ D0.out.cur).mono ?_;rintro e w1 ⟨z,rfl,hz0,hz1,_,hf,hc⟩;have X:=hz1 (by omega);obtain⟨zn,rfl⟩:∃zn:Nat,z=(zn:Int):=⟨z.toNat,by omega⟩;have D1:Hid (DSt w1 C lo G bs):=D0.out.draw hf hc;have F1:Hid (FrD C lo G w w1):=FrD.fr hf D0.out.hC D0.out.cur.lt;have K1:Hid (ja w1 lo kv l):=jq K0.out (ju.fr hf D0.out.hC);clear hf hc hz1 K;go_wp2_with fail
 go_loopw [1,2,11] (fun bv kv i wr=>∃(k b:Nat) (lk:List Int) (B:List Bk),k≤zn+1∧i=vi k∧bv=vi (b:Int)∧b<B.length∧nb≤B.length∧B.length≤nb+k*0∧ja wr lo kv lk∧0<lk.length∧lk.length≤kn+3*k∧DSt wr C lo G B∧FrD C lo G w wr) (fun _ _ i _=>zn+1-(intOf i).toNat)
 case atStart=>exact⟨0,bn,l,bs,by omega,rfl,rfl,by rw[HNB.out];exact hb,by rw[HNB.out];omega,by rw[HNB.out];omega,K1.out,by rw[HKN.out];exact h0,by rw[HKN.out];omega,D1.out,F1.out⟩
 case round=>
  obtain⟨k,b,lk,B,hk,rfl,rfl,hbB,hB1,hB2,hKk,hk0,hk1,hDD,hFF⟩:=hrel;obtain⟨kg,kcap,hu2⟩:=hKk.isSlice hk0;obtain⟨kk,hkk⟩:∃n,lk.length=n:=⟨_,rfl⟩;have t:Hid (lk.length=kk):=hkk;rw[hkk] at hu2 hk0 hk1;subst hu2;obtain⟨nB,hnB⟩:∃n,B.length=n:=⟨_,rfl⟩;have r:Hid (B.length=nB):=hnB;rw[hnB] at hbB hB1 hB2;have DD:Hid (DSt wr C lo G B):=hDD;have FF:Hid (FrD C lo G w wr):=hFF;have KK:Hid (ja wr lo (sq kg 0 kk kcap) lk):=hKk;have cC:=hDD.c0;have L:k*0≤0:=by
   have:=Nat.mul_le_mul_right 0 hk;have h2:(zn+1)*0≤5*0:=Nat.mul_le_mul_right _ (by omega);omega
  have J:k*0+0=(k+1)*0:=(Nat.succ_mul _ _).symm;clear hDD hFF hKk hkk hnB;by_cases U:(k:Int)<1+(zn:Int)
  ·have M:k≤zn:=by omega
   go_wp2_with fail
   refine(XC C lo G _ b (sq kg 0 kk kcap) lk _ DD.out (by have:=r.out;omega) (by have:=r.out;omega) KK.out (by have:=t.out;omega) (by have:=t.out;omega)).mono ?_;rintro e wS ⟨O,lS,BS,rfl,hlS,ddS,okS,h0S,h1S,ffS⟩;have DS:Hid (DSt wS C lo G BS):=ddS;have KS:Hid (ja wS lo O lS):=okS;have FS:Hid (FrD C lo G w wS):=FF.out.trans ffS;have H:Hid (BS.length=nB):=hlS.trans r.out;have I:Hid (0<lS.length∧lS.length≤kk+3):=⟨by have:=t.out;omega,by have:=t.out;omega⟩;clear hlS ddS okS h0S h1S ffS;go_wp2_with fail
   go_roundw
   case rel=>exact⟨k+1,b,lS,BS,by omega,by go_num,rfl,by rw[H.out];exact hbB,by rw[H.out];omega,by rw[H.out];exact Nat.le_trans hB2 (by omega),KS.out,I.out.1,by have:=I.out.2;omega,DS.out,FS.out⟩
   case measure=>simp[intOf];omega
  ·have M:k=zn+1:=by omega
   go_wp2_with fail
   go_ret2
   refine⟨b,_,lk,B,rfl,by rw[r.out];exact hbB,by rw[r.out,HNB.out];exact hB1,?_,DD.out,KK.out,by rw[t.out];exact hk0,by rw[t.out,HKN.out];omega,FF.out⟩;rw[r.out,HNB.out];show nB≤nb+Kc 0;simp[Kc];omega
theorem agV (C lo G d:Nat)(hcode:Kg C lo G d)(hd:d+1≤10):Kg C lo G (d+1):=by
 have J:Hid (Kg C lo G d):=hcode;clear hcode;intro bs bn kv l w h hb hn hk h0 h1;have D0:Hid (DSt w C lo G bs):=h;obtain⟨nb,HNB⟩:∃n,Hid (bs.length=n):=⟨_,rfl⟩;obtain⟨kn,HKN⟩:∃n,Hid (l.length=n):=⟨_,rfl⟩;have K0:Hid (ja w lo kv l):=hk;rw[HNB.out] at hb hn;rw[HKN.out] at h0 h1;obtain⟨kc,HKC⟩:∃k,Hid (Kc d=k):=⟨_,rfl⟩;have aj:nb+(15+10*kc)≤900:=by rw[←HKC.out];exact hn
 obtain⟨dp,hdp⟩:∃x,d+1=x:=⟨_,rfl⟩;have O:(dp:Int)-1=(d:Int):=by omega
 have ad:¬(dp:Int)≤0:=by omega
 have ab:Hid (d+1=dp):=hdp;have M:d≤10:=by omega
 have ah:kn+18*(d+2)≤800:=h1;rw[hdp];clear hdp;have ac:=D0.out.c0;clear h hk hn;go_enter Tryz.func106,Tryz.ntmps106
 go_wp2_with fail
 refine(jH C 5 _ D0.out.cur).mono ?_;rintro e w1 ⟨z,rfl,hz0,hz1,_,hf,hc⟩;have an:=hz1 (by omega);obtain⟨zn,rfl⟩:∃zn:Nat,z=(zn:Int):=⟨z.toNat,by omega⟩;have D1:Hid (DSt w1 C lo G bs):=D0.out.draw hf hc;have F1:Hid (FrD C lo G w w1):=FrD.fr hf D0.out.hC D0.out.cur.lt;have K1:Hid (ja w1 lo kv l):=jq K0.out (ju.fr hf D0.out.hC);clear hf hc hz1 ac;go_wp2_with fail
 go_loopw [1,2,11] (fun bv kv i wr=>∃(k b:Nat) (lk:List Int) (B:List Bk),k≤zn+1∧i=vi k∧bv=vi (b:Int)∧b<B.length∧nb≤B.length∧B.length≤nb+k*(3+2*kc)∧ja wr lo kv lk∧0<lk.length∧lk.length≤kn+3*k∧DSt wr C lo G B∧FrD C lo G w wr) (fun _ _ i _=>zn+1-(intOf i).toNat)
 case atStart=>exact⟨0,bn,l,bs,by omega,rfl,rfl,by rw[HNB.out];exact hb,by rw[HNB.out];omega,by rw[HNB.out];omega,K1.out,by rw[HKN.out];exact h0,by rw[HKN.out];omega,D1.out,F1.out⟩
 case round=>
  obtain⟨k,b,lk,B,hk,rfl,rfl,hbB,hB1,hB2,hKk,hk0,hk1,hDD,hFF⟩:=hrel;obtain⟨kg,kcap,hu2⟩:=hKk.isSlice hk0;obtain⟨kk,hkk⟩:∃n,lk.length=n:=⟨_,rfl⟩;have r:Hid (lk.length=kk):=hkk;rw[hkk] at hu2 hk0 hk1;subst hu2;obtain⟨nB,hnB⟩:∃n,B.length=n:=⟨_,rfl⟩;have H:Hid (B.length=nB):=hnB;rw[hnB] at hbB hB1 hB2;have DD:Hid (DSt wr C lo G B):=hDD;have FF:Hid (FrD C lo G w wr):=hFF;have KK:Hid (ja wr lo (sq kg 0 kk kcap) lk):=hKk;have cC:=hDD.c0;have ae:k*(3+2*kc)≤(15+10*kc):=by
   have:=Nat.mul_le_mul_right (3+2*kc) hk;have h2:(zn+1)*(3+2*kc)≤5*(3+2*kc):=Nat.mul_le_mul_right _ (by omega);omega
  have V:k*(3+2*kc)+(3+2*kc)=(k+1)*(3+2*kc):=(Nat.succ_mul _ _).symm;clear hDD hFF hKk hkk hnB;by_cases ai:(k:Int)<1+(zn:Int)
  ·have af:k≤zn:=by omega
   have X:(k+1)*(3+2*kc)≤15+10*kc:=by
    have:=Nat.mul_le_mul_right (3+2*kc) (show k+1≤5 by omega);omega
   go_wp2_with fail
   refine(abf C lo G _ _ DD.out).mono ?_;rintro e w2 ⟨b1,rfl,hw2⟩;have U:wr=w2:=hw2.symm;subst U;cases b1 with
   | true=>
    go_wp2_with fail
    refine(XC C lo G _ b (sq kg 0 kk kcap) lk _ DD.out (by have:=H.out;omega) (by have:=H.out;omega) KK.out (by have:=r.out;omega) (by have:=r.out;omega)).mono ?_;rintro e wS ⟨L,lS,BS,rfl,hlS,ddS,okS,h0S,h1S,ffS⟩;have DS:Hid (DSt wS C lo G BS):=ddS;have KS:Hid (ja wS lo L lS):=okS;have FS:Hid (FrD C lo G w wS):=FF.out.trans ffS;have t:Hid (BS.length=nB):=hlS.trans H.out;have I:Hid (0<lS.length∧lS.length≤kk+3):=⟨by have:=r.out;omega,by have:=r.out;omega⟩;clear hlS ddS okS h0S h1S ffS;go_wp2_with fail
    go_roundw
    case rel=>exact⟨k+1,b,lS,BS,by omega,by go_num,rfl,by rw[t.out];exact hbB,by rw[t.out];omega,by rw[t.out];exact Nat.le_trans hB2 (by omega),KS.out,I.out.1,by have:=I.out.2;omega,DS.out,FS.out⟩
    case measure=>simp[intOf];omega
   | false=>
    go_wp2_with fail
    refine(YS C 3 _ DD.out.cur).mono ?_;rintro e w3 ⟨b2,rfl,hf,hc⟩;have D3:Hid (DSt w3 C lo G B):=DD.out.draw hf hc;have F3:Hid (FrD C lo G w w3):=FF.out.trans (FrD.fr hf DD.out.hC DD.out.cur.lt);have K3:Hid (ja w3 lo (sq kg 0 kk kcap) lk):=jq KK.out (ju.fr hf DD.out.hC);have c3:=D3.out.c0;clear hf hc cC;cases b2 with
    | false=>
     go_wp2_with fail
     refine(XC C lo G _ b (sq kg 0 kk kcap) lk _ D3.out (by have:=H.out;omega) (by have:=H.out;omega) K3.out (by have:=r.out;omega) (by have:=r.out;omega)).mono ?_;rintro e wS ⟨L,lS,BS,rfl,hlS,ddS,okS,h0S,h1S,ffS⟩;have DS:Hid (DSt wS C lo G BS):=ddS;have KS:Hid (ja wS lo L lS):=okS;have FS:Hid (FrD C lo G w wS):=F3.out.trans ffS;have t:Hid (BS.length=nB):=hlS.trans H.out;have I:Hid (0<lS.length∧lS.length≤kk+3):=⟨by have:=r.out;omega,by have:=r.out;omega⟩;clear hlS ddS okS h0S h1S ffS;go_wp2_with fail
     go_roundw
     case rel=>exact⟨k+1,b,lS,BS,by omega,by go_num,rfl,by rw[t.out];exact hbB,by rw[t.out];omega,by rw[t.out];exact Nat.le_trans hB2 (by omega),KS.out,I.out.1,by have:=I.out.2;omega,DS.out,FS.out⟩
     case measure=>simp[intOf];omega
    | true=>
     go_wp2_with fail
     refine(jH C 4 _ D3.out.cur).mono ?_;rintro e w4 ⟨y,rfl,hy0,hy1,_,hf,hc⟩;have ak:=hy1 (by omega);have D4:Hid (DSt w4 C lo G B):=D3.out.draw hf hc;have F4:Hid (FrD C lo G w w4):=F3.out.trans (FrD.fr hf D3.out.hC D3.out.cur.lt);have K4:Hid (ja w4 lo (sq kg 0 kk kcap) lk):=jq K3.out (ju.fr hf D3.out.hC);clear hf hc c3 hy1;by_cases hy:y=0
     ·subst hy;go_wp2_with fail
      try rw[O]
      refine(l2If_of C lo G d J.out M _ b (sq kg 0 kk kcap) lk _ D4.out (by have:=H.out;omega) (by have:=H.out;rw[HKC.out];omega) K4.out (by have:=r.out;omega) (by have:=r.out;omega)).mono ?_;rintro e wS ⟨bS,L,lS,BS,rfl,hbS,hlS1,hlS2,ddS,okS,h0S,h1S,ffS⟩;have DS:Hid (DSt wS C lo G BS):=ddS;have KS:Hid (ja wS lo L lS):=okS;have FS:Hid (FrD C lo G w wS):=F4.out.trans ffS;obtain⟨nS,hnS⟩:∃n,BS.length=n:=⟨_,rfl⟩;have t:Hid (BS.length=nS):=hnS;rw[H.out,hnS] at hlS1 hlS2;rw[hnS] at hbS;rw[HKC.out] at hlS2;have K:Hid (bS<nS∧nB≤nS∧nS≤nB+(3+2*kc)):=⟨hbS,hlS1,by omega⟩;have I:Hid (0<lS.length∧lS.length≤kk+3):=⟨h0S,by have:=r.out;omega⟩;clear hlS1 hlS2 hbS hnS ddS okS h0S h1S ffS;go_wp2_with fail
      go_roundw
      case rel=>exact⟨k+1,bS,lS,BS,by omega,by go_num,rfl,by rw[t.out];exact K.out.1,by rw[t.out];have:=K.out.2.1;omega,by rw[t.out];have:=K.out.2.2;omega,KS.out,I.out.1,by have:=I.out.2;omega,DS.out,FS.out⟩
      case measure=>simp[intOf];omega
     ·have am:(y == 0)=false:=by simp[hy]
      by_cases aa:y=1
      ·subst aa;go_wp2_with fail
       try rw[O]
       refine(agM C lo G d J.out M _ b (sq kg 0 kk kcap) lk _ D4.out (by have:=H.out;omega) (by have:=H.out;rw[HKC.out];omega) K4.out (by have:=r.out;omega) (by have:=r.out;omega)).mono ?_;rintro e wS ⟨bS,L,lS,BS,rfl,hbS,hlS1,hlS2,ddS,okS,h0S,h1S,ffS⟩;have DS:Hid (DSt wS C lo G BS):=ddS;have KS:Hid (ja wS lo L lS):=okS;have FS:Hid (FrD C lo G w wS):=F4.out.trans ffS;obtain⟨nS,hnS⟩:∃n,BS.length=n:=⟨_,rfl⟩;have t:Hid (BS.length=nS):=hnS;rw[H.out,hnS] at hlS1 hlS2;rw[hnS] at hbS;rw[HKC.out] at hlS2;have K:Hid (bS<nS∧nB≤nS∧nS≤nB+(3+2*kc)):=⟨hbS,hlS1,by omega⟩;have I:Hid (0<lS.length∧lS.length≤kk+3):=⟨h0S,by have:=r.out;omega⟩;clear hlS1 hlS2 hbS hnS ddS okS h0S h1S ffS;go_wp2_with fail
       go_roundw
       case rel=>exact⟨k+1,bS,lS,BS,by omega,by go_num,rfl,by rw[t.out];exact K.out.1,by rw[t.out];have:=K.out.2.1;omega,by rw[t.out];have:=K.out.2.2;omega,KS.out,I.out.1,by have:=I.out.2;omega,DS.out,FS.out⟩
       case measure=>simp[intOf];omega
      ·have ag:(y == 1)=false:=by simp[aa]
       go_wp2_with fail
       try rw[O]
       refine(agT C lo G d J.out M _ b (sq kg 0 kk kcap) lk _ D4.out (by have:=H.out;omega) (by have:=H.out;rw[HKC.out];omega) K4.out (by have:=r.out;omega) (by have:=r.out;omega)).mono ?_;rintro e wS ⟨bS,L,lS,BS,rfl,hbS,hlS1,hlS2,ddS,okS,h0S,h1S,ffS⟩;have DS:Hid (DSt wS C lo G BS):=ddS;have KS:Hid (ja wS lo L lS):=okS;have FS:Hid (FrD C lo G w wS):=F4.out.trans ffS;obtain⟨nS,hnS⟩:∃n,BS.length=n:=⟨_,rfl⟩;have t:Hid (BS.length=nS):=hnS;rw[H.out,hnS] at hlS1 hlS2;rw[hnS] at hbS;rw[HKC.out] at hlS2;have K:Hid (bS<nS∧nB≤nS∧nS≤nB+(3+2*kc)):=⟨hbS,hlS1,by omega⟩;have I:Hid (0<lS.length∧lS.length≤kk+3):=⟨h0S,by have:=r.out;omega⟩;clear hlS1 hlS2 hbS hnS ddS okS h0S h1S ffS;go_wp2_with fail
       go_roundw
       case rel=>exact⟨k+1,bS,lS,BS,by omega,by go_num,rfl,by rw[t.out];exact K.out.1,by rw[t.out];have:=K.out.2.1;omega,by rw[t.out];have:=K.out.2.2;omega,KS.out,I.out.1,by have:=I.out.2;omega,DS.out,FS.out⟩
       case measure=>simp[intOf];omega
  ·have af:k=zn+1:=by omega
   go_wp2_with fail
   go_ret2
   refine⟨b,_,lk,B,rfl,by rw[H.out];exact hbB,by rw[H.out,HNB.out];exact hB1,?_,DD.out,KK.out,by rw[r.out];exact hk0,by rw[r.out,HKN.out];omega,FF.out⟩;rw[H.out,HNB.out];rw[←ab.out];have:Kc (d+1)=15+10*kc:=by rw[←HKC.out];rfl
   omega
theorem agW (C lo G:Nat):∀d,d≤10→Kg C lo G d
 | 0,_=>agU C lo G
 | d+1,h=>agV C lo G d (agW C lo G d (by omega)) h
end Go.Proofs.YtkbhbekfniadhaaGreat
