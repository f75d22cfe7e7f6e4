/- What is needed at a place: the answer, and the model's LiveAt. The program's LiveAt. -/
import Derived.Test.YtkbhbekfniadhaaGreatTkK
import Derived.Test.YtkbhbekfniadhaaGreatTk0
import Derived.Test.YtkbhbekfniadhaaGreatKLPl
import Derived.Test.YtkbhbekfniadhaaGreatKSh8
import Derived.Test.YtkbhbekfniadhaaGreatKFnCo
import Derived.Test.YtkbhbekfniadhaaGreatKLImp
set_option maxRecDepth 100000
set_option maxHeartbeats 8000000
namespace Go.Proofs.YtkbhbekfniadhaaGreat
open Go.ChangeShapes Go.WideShapes Go.ChangeAt Go.RowKit Go.Shelf
set_option linter.unusedVariables false
theorem ag7 {P:Program}{o:Oper}{a:Act}{f:FuncId}{x:Operand}{ts:Array TypeId}(ho:o.op=Op.call { callee:=Callee.value (Operand.func f),args := #[x],argTypes:=ts }){u:Value}(hx:a.eval x=u)(he:∀args w,(callFunc f args).run P w=.ok (.enter f args) w)(w:World):(execOp a.eval o).run P w=.ok (.enter f #[u]) w:=by
 simp[execOp,ho,resolve,invoke,Act.eval,go_sem,he];simp[Act.eval] at hx;simp[hx]
def ZF (F:FnD)(b i:Int)(x:jc):Prop:=qg F∧0≤b∧F.blocks[b.toNat]?=some x∧0≤i∧i≤(x.list.length:Int)
open Classical in
noncomputable def xZ (F:FnD)(b i:Int):List Int:=if h:∃x,ZF F b i x then atS h.choose (yT F (qz F) b.toNat) i.toNat else []
theorem Yj {F:FnD}{b i:Int}{x:jc}(h:ZF F b i x):xZ F b i=atS x (yT F (qz F) b.toNat) i.toNat:=by
 have he:∃x,ZF F b i x:=⟨x,h⟩;unfold xZ;rw[dif_pos he];have e:he.choose=x:=by
  have h1:=he.choose_spec.2.2.1;rw[h.2.2.1] at h1;exact(Option.some.inj h1).symm
 rw[e]
theorem Qn {F:FnD}{b i:Int}(h:¬∃x,ZF F b i x):xZ F b i = []:=by
 unfold xZ;rw[dif_neg h]
end Go.Proofs.YtkbhbekfniadhaaGreat
namespace Go.Proofs.YtkbhbekfniadhaaGreat
open Go.ChangeShapes Go.WideShapes Go.ChangeAt Go.RowKit Go.Shelf
set_option linter.unusedVariables false
attribute [local go_sem] Oper.semAt_some
theorem aeP {w:World}{x:Nat}{a:Value}{t:TypeId}{z:Nat × Nat}(h:w.heap[x]?=some (.cells #[a] t z))(u:Value):(w.setCell (Z x 0) u).heap[x]?=some (.cells #[u] t z):=by
 obtain⟨r,hk⟩:=aI h;show(w.heap.modify x _)[x]?=_;rw[Array.getElem?_eq_getElem (by rw[Array.size_modify];exact r),Array.getElem_modify_self,hk]
 rfl
theorem aeQ {w:World}{lo x:Nat}{v:Value}{l:List Int}(h:ja w lo v l){c:Array Value}{z:Nat × Nat}(hx:w.heap[x]?=some (.cells c 30 z))(u:Value):ja (w.setCell (Z x 0) u) lo v l :=
 h.ZO (fun b hb=>Below.heap_setCell _ _ _ b (fun e=>by subst e;exact h.zQ hx (by decide) hb.symm))
theorem adV {w:World}{lo x:Nat}{a:Value}{z:Nat × Nat}(hx:w.heap[x]?=some (.cells #[a] 30 z))(hl:lo≤w.heap.size)(hlx:lo≤x) :
  ja ((w.alloc (.cells #[] 3)).setCell (Z x 0) (sq w.heap.size 0 0 0)) lo (sq w.heap.size 0 0 0) []∧((w.alloc (.cells #[] 3)).setCell (Z x 0) (sq w.heap.size 0 0 0)).heap[x]?=some (.cells #[sq w.heap.size 0 0 0] 30 z)∧Below lo w ((w.alloc (.cells #[] 3)).setCell (Z x 0) (sq w.heap.size 0 0 0)):=by
 have h:(w.alloc (.cells #[] 3)).heap[x]?=some (.cells #[a] 30 z):=(Below.heap_alloc _ _ _ (aI hx).1).trans hx;exact⟨aeQ ((JT w).low hl) h _,aeP h _,((Below.refl lo w).alloc hl _).setCell (p:=(Z x 0)) hlx _⟩
theorem xz {w:World}{x:Nat}{a:Value}{t:TypeId}(h:w.heap[x]?=some (.cells #[a] t (0,0))):w.cell? (Z x 0)=some a∧w.frozen? (Z x 0)=false:=⟨by simp[World.cell?,h],by simp[World.frozen?,h]⟩
theorem lens_has {x:jc}{o:List Int}{ys:List (Int × Value)}(h:ys.map (fun y=>(y.1,ahc y.2))=qZ x o (x.list.length+1)){j:Nat}(hj:j≤x.list.length):∃y∈ys,y.1=(j:Int):=by
 have h1:((j:Int),(atS x o j).length)∈qZ x o (x.list.length+1):=by
  unfold qZ;rw[List.mem_map];refine⟨x.list.length-j,by simp;omega,?_⟩;rw[show x.list.length-(x.list.length-j)=j by omega]
 rw[←h,List.mem_map] at h1;obtain⟨y,hy,e⟩:=h1;exact⟨y,hy,congrArg Prod.fst e⟩
structure AtI (w:World)(i:Int)(B:Nat)(pre:List (Int × Value))(U:World):Prop where
 not:∀p∈pre,p.1≠i
 x1:U.heap[w.heap.size+1]?=some (.cells #[vi i] 3 (0,0))
 x2:U.heap[w.heap.size+1+1]?=some (.cells #[.slice none 0 0] 30 (0,0))
 bel:Below w.heap.size w U
 size:B≤U.heap.size
theorem AtI.below {w X Y:World}{i:Int}{B:Nat}{s:List (Int × Value)}(h:AtI w i B s X)(hb:Below B X Y)(hB:w.heap.size+1+1<B):AtI w i B s Y :=
 ⟨h.not,(hb.block _ (by omega)).trans h.x1,(hb.block _ (by omega)).trans h.x2,h.bel.trans (hb.mono (by omega)),Nat.le_trans h.size hb.size⟩
theorem AtI.grown {w X Y:World}{i:Int}{B:Nat}{s:List (Int × Value)}{row:Option Nat}(h:AtI w i B s X)(hg:X.grownBy Y row)(hr:∀r,row=some r→B≤r∧∃o:Obj,X.heap[r]?=some o∧o.isCells=false)(hB:w.heap.size+1+1<B):AtI w i B s Y :=
 h.below (kX hg h.size (fun r e=>(hr r e).1)) hB
def AtX (w:World)(i:Int)(B:Nat)(x:jc)(no:List Int)(cd:Code)(pre:List (Int × Value))(U:World):Prop :=
 ∃(j:Nat) (u:Value),cd=.ret∧i=(j:Int)∧j≤x.list.length∧U.heap[w.heap.size+1+1]?=some (.cells #[u] 30 (0,0))∧ja U B u (atS x no j)∧Below w.heap.size w U∧B≤U.heap.size
theorem AtX.grown {w X Y:World}{i:Int}{B:Nat}{x:jc}{no:List Int}{cd:Code}{s:List (Int × Value)}{row:Option Nat}(h:AtX w i B x no cd s X)(hg:X.grownBy Y row)(hr:∀r,row=some r→B≤r∧∃o:Obj,X.heap[r]?=some o∧o.isCells=false)(hB:w.heap.size+1+1<B):AtX w i B x no cd s Y:=by
 obtain⟨j,u,h1,h2,h3,h4,h5,h6,h7⟩:=h;have hb:=kX hg h7 (fun r e=>(hr r e).1);exact⟨j,u,h1,h2,h3,(hb.block _ (by omega)).trans h4,h5.zh hg (fun r e=>(hr r e).2),h6.trans (hb.mono (by omega)),Nat.le_trans h7 hb.size⟩
theorem ag8 {x:jc}{no:List Int}{lo:Nat}{y:Int × Value}{X Y:World}{row:Option Nat}(h:bDt x no lo y X)(hg:X.grownBy Y row)(hr:∀r,row=some r→∃o:Obj,X.heap[r]?=some o∧o.isCells=false):bDt x no lo y Y:=by
 obtain⟨j,h1,h2,h3⟩:=h;exact⟨j,h1,h2,h3.zh hg hr⟩
theorem adW (v:Value)(F:FnD)(b i:Int)(w:World)(hF:kJ w v F) :
  Calls Tryz.prog 16 #[v,vi b,vi i] w fun e w'=>JS w (xZ F b i) e w':=by
 have HF:Hid (kJ w v F):=hF;obtain⟨n,HN⟩:∃n,Hid (F.blocks.length=n):=⟨_,rfl⟩;obtain⟨vals,HV⟩:∃x,Hid (F.values=x):=⟨_,rfl⟩;obtain⟨ba,bcap,rfl⟩:=hF.out HN.out HV.out;have L:n≤9223372036854775807:=by rw[←HN.out];exact hF.most
 clear hF;obtain⟨wA,hwA⟩:∃wA,((w.alloc (.cells #[.slice ba n bcap,vi vals] 26)).alloc (.cells #[vi i] 3)).alloc (.cells #[.slice none 0 0] 30)=wA:=⟨_,rfl⟩;have BA:Hid (Below w.heap.size w wA):=by rw[←hwA];repeat (first | exact Below.refl _ _ | apply Below.drew | refine Below.alloc ?_ (by simp <;> omega) _ | refine Below.setCell ?_ (by simp <;> omega) _)
 have aN:wA.heap.size=w.heap.size+3:=by rw[←hwA];simp
 have x0:wA.heap[w.heap.size]?=some (.cells #[.slice ba n bcap,vi vals] 26 (0,0)):=by
  rw[←hwA,Below.heap_alloc _ _ _ (by simp <;> omega),Below.heap_alloc _ _ _ (by simp)];exact World.alloc_heap_new w _
 have x1:wA.heap[w.heap.size+1]?=some (.cells #[vi i] 3 (0,0)):=by
  rw[←hwA,Below.heap_alloc _ _ _ (by simp)];have:=World.alloc_heap_new (w.alloc (.cells #[.slice ba n bcap,vi vals] 26)) (.cells #[vi i] 3)
  rwa [World.size_alloc] at this
 have x2:wA.heap[w.heap.size+1+1]?=some (.cells #[.slice none 0 0] 30 (0,0)):=by
  rw[←hwA];have:=World.alloc_heap_new ((w.alloc (.cells #[.slice ba n bcap,vi vals] 26)).alloc (.cells #[vi i] 3)) (.cells #[.slice none 0 0] 30)
  rwa [World.size_alloc,World.size_alloc] at this
 have a0:wA.cell? (Z w.heap.size 0)=some (.slice ba n bcap):=by simp[World.cell?,x0]
 have a1:wA.cell? (Z w.heap.size 1)=some (vi vals):=by simp[World.cell?,x0]
 have X1:Hid (wA.heap[w.heap.size+1]?=some (.cells #[vi i] 3 (0,0))):=x1;have X2:Hid (wA.heap[w.heap.size+1+1]?=some (.cells #[.slice none 0 0] 30 (0,0))):=x2;clear x0 x1 x2;refine(callsIn_wide (n:=6)).1 ?_;refine callsIn_of_wp_marks Tryz.func16 rfl trivial ?_ rfl;simp only[Tryz.ntmps16,List.size_toArray,List.length_cons,List.length_nil,Nat.reduceAdd,Nat.reduceSub,Array.replicate_succ,Array.replicate_zero,List.push_toArray,List.append_toArray,List.nil_append,List.cons_append]
 gi_wp2_with fail
 try rw[hwA]
 refine⟨trivial,(callsIn_wide.2 (Yx _ F _ (HF.out.later BA.out))).mono ?_⟩;rintro e w2 ⟨s,rfl,hs,b2⟩;have HS:Hid (s=true↔qg F):=hs;have B2:Hid (Below w.heap.size w w2):=Bel.after BA.out b2;have ar:Hid (w2.heap[w.heap.size+1]?=some (.cells #[vi i] 3 (0,0))):=(b2.block _ (by omega)).trans X1.out;have ae:Hid (w2.heap[w.heap.size+1+1]?=some (.cells #[.slice none 0 0] 30 (0,0))):=(b2.block _ (by omega)).trans X2.out;have c0:=Bel.keeps b2 a0;have c1:=Bel.keeps b2 a1;have aM:w.heap.size+3≤w2.heap.size:=by have:=b2.size;omega
 clear hs b2 a0 a1 hwA BA X1 X2 aN;cases s
 ·have HE:Hid (xZ F b i = []):=Qn (fun⟨x,h⟩=>by have:=HS.out.2 h.1;cases this);obtain⟨k0,k1⟩:=xz ((Below.heap_alloc w2 (.cells #[] 3) _ (by omega:w.heap.size+1+1<w2.heap.size)).trans ae.out);obtain⟨p1,p2,p3⟩:=adV ae.out B2.out.size (by omega:w.heap.size≤w.heap.size+1+1);have P1:Hid _:=p1;have P2:Hid _:=p2;have P3:Hid _:=p3;clear p1 p2 p3
  gi_wp2_with fail
  refine⟨trivial,?_⟩
  gi_wp2
  refine⟨sq w2.heap.size 0 0 0,?_,_,rfl,by rw[HE.out];exact P1.out,B2.out.trans P3.out⟩;have e1:=(xz P2.out).1;simp[results,Tryz.f16,go_sem,e1]
 ·have hp:qg F:=HS.out.1 rfl;have HP:Hid (qg F):=hp;obtain⟨n',V,hv⟩:=ZR hp;have en:n'=n:=hv.len.symm.trans HN.out;subst en;have ak:Hid (Je F n' V):=hv;have h1:=hv.n1;have am:=hv.n16;clear hp hv
  gi_wp2_with fail
  refine⟨trivial,(callsIn_wide.2 (zk ba n' bcap vals b w2)).mono ?_⟩;rintro e w3 ⟨rfl,b3⟩;have B3:Hid (Below w.heap.size w w3):=Bel.after B2.out b3;have au:Hid (w3.heap[w.heap.size+1]?=some (.cells #[vi i] 3 (0,0))):=(b3.block _ (by omega)).trans ar.out;have af:Hid (w3.heap[w.heap.size+1+1]?=some (.cells #[.slice none 0 0] 30 (0,0))):=(b3.block _ (by omega)).trans ae.out;replace c0:=Bel.keeps b3 c0;replace c1:=Bel.keeps b3 c1;have aA:w.heap.size+3≤w3.heap.size:=by have:=b3.size;omega
  clear b3 B2 ar ae aM;obtain⟨t,HT⟩:∃t,Hid (jl (n':Int) b=t):=⟨_,rfl⟩;rw[HT.out];cases t
  ·have HE:Hid (xZ F b i = []):=Qn (fun⟨x,h⟩=>by
    have h2:b.toNat<F.blocks.length:=(List.getElem?_eq_some_iff.1 h.2.2.1).1;have h3:jl (n':Int) b=true:=Kt.2 ⟨h.2.1,by have:=HN.out;have:=h.2.1;omega⟩;rw[HT.out] at h3
    cases h3)
   obtain⟨k0,k1⟩:=xz ((Below.heap_alloc w3 (.cells #[] 3) _ (by omega:w.heap.size+1+1<w3.heap.size)).trans af.out);obtain⟨p1,p2,p3⟩:=adV af.out B3.out.size (by omega:w.heap.size≤w.heap.size+1+1);have P1:Hid _:=p1;have P2:Hid _:=p2;have P3:Hid _:=p3;clear p1 p2 p3
   gi_wp2
   refine⟨sq w3.heap.size 0 0 0,?_,_,rfl,by rw[HE.out];exact P1.out,B3.out.trans P3.out⟩;have e1:=(xz P2.out).1;simp[results,Tryz.f16,go_sem,e1]
  ·obtain⟨ax,hbn⟩:=Kt.1 HT.out;obtain⟨c,rfl⟩:∃c:Nat,b=(c:Int):=⟨b.toNat,by omega⟩;have M:c<n':=by omega
   have az:c<F.blocks.length:=by rw[HN.out];exact M
   obtain⟨x,HX⟩:∃x,Hid (F.blocks[c]?=some x):=⟨F.blocks[c],List.getElem?_eq_getElem az⟩;obtain⟨bb,off,hba,pv,lv,t0,t1,t2,t3,t4,t5,hpv,hlv⟩:=kJ.yg HF.out HN.out M HX.out;subst hba;have aq:Hid (jz 0 5 jU w lv x.list):=hlv;obtain⟨la,G,rfl,hlm,-⟩:=hlv;obtain⟨pa,pcap,rfl,hpm,-⟩:=hpv;obtain⟨ln,HLN⟩:∃z,Hid (x.list.length=z):=⟨_,rfl⟩;obtain⟨pn,HPN⟩:∃z,Hid (x.phis.length=z):=⟨_,rfl⟩;rw[HLN.out] at t1 hlm;rw[HPN.out] at t0 hpm;have d0:=Bel.keeps B3.out t0;have d1:=Bel.keeps B3.out t1;have d2:=Bel.keeps B3.out t2;have d3:=Bel.keeps B3.out t3;have d4:=Bel.keeps B3.out t4;have d5:=Bel.keeps B3.out t5;clear t0 t1 t2 t3 t4 t5 az hlm hpm;have ay:(c:Int)<(n':Int):=by omega
   have aD:Hid (kJ w3 (.agg #[sq bb off n' bcap,vi vals]) F):=HF.out.later B3.out
   gi_wp2_with fail
   refine Kq (S:=fun W'=>W'.cell? (Z w.heap.size 0)=some (sq bb off n' bcap)∧W'.cell? (Z w.heap.size 1)=some (vi vals)∧W'.cell? (Z bb (off+c*6))=some (.slice pa pn pcap)∧W'.cell? (Z bb (off+c*6+1))=some (.slice la ln G)∧W'.cell? (Z bb (off+c*6+2))=some (vi x.term.k)∧W'.cell? (Z bb (off+c*6+3))=some (vi x.term.a)∧W'.cell? (Z bb (off+c*6+4))=some (vi x.term.t)∧W'.cell? (Z bb (off+c*6+5))=some (vi x.term.e)) (by kernel_rfl) ⟨c0,c1,d0,d1,d2,d3,d4,d5⟩ (fun hHeld=>?_);refine tkA 0 ⟨some 19,.fieldAddr 26 (.tmp 3) 0,0,"l11_live.go:33",#[],none⟩ ?_ (fun w h=>?_) ?_;rotate_left
   ·(try dsimp only at h);go_simp;(try with_reducible rfl)
   try simp only[Act.put,sT,sZ,sS]
   refine tkA 1 ⟨some 20,.load 24 (.tmp 19),24,"l11_live.go:33",#[⟨0,.data⟩],none⟩ ?_ (fun w h=>?_) ?_;rotate_left
   ·(try dsimp only at h);go_simp;(try with_reducible rfl)
   try simp only[Act.put,sT,sZ,sS]
   refine tkA 2 ⟨some 21,.move (.tmp 1),3,"l11_live.go:33",#[],none⟩ ?_ (fun w h=>?_) ?_;rotate_left
   ·(try dsimp only at h);go_simp;(try with_reducible rfl)
   try simp only[Act.put,sT,sZ,sS]
   refine tkA 3 ⟨some 22,.indexAddr 24 (.tmp 20) (.tmp 21),0,"l11_live.go:33",#[⟨1,.data⟩,⟨2,.data⟩],none⟩ ?_ (fun w h=>?_) ?_;rotate_left
   ·(try dsimp only at h);go_simp;(try with_reducible rfl)
   try simp only[Act.put,sT,sZ,sS]
   refine tkA 4 ⟨some 23,.load 43 (.tmp 22),43,"l11_live.go:33",#[⟨3,.data⟩],none⟩ ?_ (fun w h=>?_) ?_;rotate_left
   ·(try dsimp only at h);go_simp;(try with_reducible rfl)
   try simp only[Act.put,sT,sZ,sS]
   refine tkA 5 ⟨some 24,.load 26 (.tmp 3),26,"l11_live.go:33",#[],none⟩ ?_ (fun w h=>?_) ?_;rotate_left
   ·(try dsimp only at h);go_simp;(try with_reducible rfl)
   try simp only[Act.put,sT,sZ,sS]
   refine tkA 8 ⟨some 27,.move (.tmp 1),3,"l11_live.go:33",#[],none⟩ ?_ (fun w h=>?_) ?_;rotate_left
   ·(try dsimp only at h);go_simp;(try with_reducible rfl)
   try simp only[Act.put,sT,sZ,sS]
   refine jg (i:=6) (o:=⟨some 25,.call ⟨.value (.func 39),#[.tmp 24],#[26]⟩,63,"l11_live.go:33",#[⟨5,.data⟩],none⟩) rfl rfl (by kernel_rfl) (fun K9 I=>?_);refine jx (f:=39) (args := #[.agg #[sq bb off n' bcap,vi vals]]) (ag7 rfl (by kernel_rfl) (enters_of Tryz.func39 (by kernel_rfl) rfl) _) (ZQ _ F w3.drew (aD.out.later (Below.refl _ _).drew) n' HN.out h1 am ak.out.takes ak.out.su) ?_;rintro e w4 ⟨gI,gO,us,vs,rfl,hne,b4⟩;have B4:Hid (Below w3.heap.size w3 w4):=((Below.refl _ w3).drew).trans b4;have aj:Hid (jA w4 w3.heap.size gI gO n' us vs (qz F) (yT F (qz F))):=hne;refine⟨_,rfl,I _ _ ⟨⟨Bel.keeps B4.out c0,Bel.keeps B4.out c1,Bel.keeps B4.out d0,Bel.keeps B4.out d1,Bel.keeps B4.out d2,Bel.keeps B4.out d3,Bel.keeps B4.out d4,Bel.keeps B4.out d5⟩,?_⟩⟩;clear hne b4 I;try simp only[Act.put,sT,sZ,sS]
   refine jg (i:=7) (o:=⟨some 26,.field 63 (.tmp 25) 1,61,"l11_live.go:33",#[⟨6,.data⟩],none⟩) rfl rfl (by kernel_rfl) (fun K9 I=>?_);refine jC (v:=sq gO 0 n' n') (w':=w4) (by have hf:=afI (sq gI 0 n' n') (sq gO 0 n' n') w4;go_simp) (I _ _ ⟨⟨Bel.keeps B4.out c0,Bel.keeps B4.out c1,Bel.keeps B4.out d0,Bel.keeps B4.out d1,Bel.keeps B4.out d2,Bel.keeps B4.out d3,Bel.keeps B4.out d4,Bel.keeps B4.out d5⟩,?_⟩);clear I;try simp only[Act.put,sT,sZ,sS]
   have aJ:w4.cell? (Z w.heap.size 0)=some (sq bb off n' bcap)∧w4.cell? (Z w.heap.size 1)=some (vi vals)∧w4.cell? (Z bb (off+c*6))=some (.slice pa pn pcap)∧w4.cell? (Z bb (off+c*6+1))=some (.slice la ln G)∧w4.cell? (Z bb (off+c*6+2))=some (vi x.term.k)∧w4.cell? (Z bb (off+c*6+3))=some (vi x.term.a)∧w4.cell? (Z bb (off+c*6+4))=some (vi x.term.t)∧w4.cell? (Z bb (off+c*6+5))=some (vi x.term.e):=⟨Bel.keeps B4.out c0,Bel.keeps B4.out c1,Bel.keeps B4.out d0,Bel.keeps B4.out d1,Bel.keeps B4.out d2,Bel.keeps B4.out d3,Bel.keeps B4.out d4,Bel.keeps B4.out d5⟩;refine tkA 9 ⟨some 28,.indexAddr 61 (.tmp 26) (.tmp 27),0,"l11_live.go:33",#[⟨7,.data⟩,⟨8,.data⟩],none⟩ ?_ (fun w h=>?_) ?_;rotate_left
   ·(try dsimp only at h);go_simp;(try with_reducible rfl)
   try simp only[Act.put,sT,sZ,sS]
   obtain⟨oa,ok,oc,hoc⟩:=(aj.out.rowO c M).form;have q4:w4.cell? (Z gO c)=some (.slice oa ok oc):=by
    have:=aj.out.setsO.cell M;unfold Qw at hoc
    rwa [hoc] at this
   refine jg (i:=10) (o:=⟨some 29,.load 74 (.tmp 28),74,"l11_live.go:33",#[⟨9,.data⟩],none⟩) rfl rfl (by kernel_rfl) (fun K9 I=>?_);refine jC (v:=.agg #[.slice oa ok oc]) (w':=w4) (by go_simp) (I _ _ ⟨⟨Bel.keeps B4.out c0,Bel.keeps B4.out c1,Bel.keeps B4.out d0,Bel.keeps B4.out d1,Bel.keeps B4.out d2,Bel.keeps B4.out d3,Bel.keeps B4.out d4,Bel.keeps B4.out d5⟩,?_⟩);clear I;try simp only[Act.put,sT,sZ,sS]
   refine jg (i:=11) (o:=⟨some 30,.call ⟨.value (.func 45),#[.tmp 23,.tmp 29],#[43,74]⟩,71,"l11_live.go:33",#[⟨4,.data⟩,⟨10,.data⟩,⟨6,.chain⟩],none⟩) rfl rfl (by kernel_rfl) (fun K9 I=>?_);refine jx (f:=45) (args := #[.agg #[.slice pa pn pcap,.slice la ln G,vi x.term.k,vi x.term.a,vi x.term.t,vi x.term.e],.agg #[.slice oa ok oc]]) (YV rfl (by kernel_rfl) (by kernel_rfl) (enters_of Tryz.func45 (by kernel_rfl) rfl) _) (Kk pa la oa pn pcap ln G ok oc x.term.k x.term.a x.term.t x.term.e w4) ?_;rintro e w5 ⟨rfl,hw5⟩;have ag:Below w4.heap.size w4 w5:=by rw[hw5];exact((Below.refl w4.heap.size w4).alloc (Nat.le_refl _) _).alloc (by simp) _
   have B5:Below w3.heap.size w3 w5:=Bel.after B4.out ag;refine⟨_,rfl,I _ _ ⟨⟨Bel.keeps B5 c0,Bel.keeps B5 c1,Bel.keeps B5 d0,Bel.keeps B5 d1,Bel.keeps B5 d2,Bel.keeps B5 d3,Bel.keeps B5 d4,Bel.keeps B5 d5⟩,?_⟩⟩;refine wpAnyH_done (by kernel_rfl) ?_ _;simp only[onlyNormal,Exit.then,Act.put,sT,sS,sZ]
   go_at_K
   gi_wp2
   have H:w5.heap[w4.heap.size]?=some (.cells #[.slice pa pn pcap,.slice la ln G,vi x.term.k,vi x.term.a,vi x.term.t,vi x.term.e] 43 (0,0)):=by
    rw[hw5,Below.heap_alloc _ _ _ (by simp)];exact World.alloc_heap_new w4 _
   have ab:w5.heap[w4.heap.size+1]?=some (.cells #[.slice oa ok oc] 74 (0,0)):=by
    rw[hw5];have:=World.alloc_heap_new (w4.alloc (.cells #[.slice pa pn pcap,.slice la ln G,vi x.term.k,vi x.term.a,vi x.term.t,vi x.term.e] 43)) (.cells #[.slice oa ok oc] 74)
    rwa [World.size_alloc] at this
   have aB:w3.heap.size≤w4.heap.size:=B4.out.size;have aC:w5.heap.size=w4.heap.size+2:=by rw[hw5];simp
   obtain⟨no,HNO⟩:∃z,Hid (yT F (qz F) c=z):=⟨_,rfl⟩;have J:Asc no∧JZ no:=by rw[←HNO.out];exact⟨yF _,Qp _⟩
   have ao:Hid (Below w.heap.size w w5):=Bel.after B3.out B5;have O:0<ln→∀c2 ad,la=some (Z c2 ad)→c2≠w.heap.size+1+1:=fun hp c2 ad e e2=>by
    have hl:0<x.list.length:=by have:=HLN.out;omega
    have ap:=aq.out;rw[HLN.out] at ap;obtain⟨c',off',e',hi⟩:=ZG ap (List.getElem?_eq_getElem hl);rw[e] at e';cases e'
    have h9:=World.block_lt_of_cell? w _ hi.1;simp at h9;omega
   have aa:ahr Fence.wide 5 Tryz.prog 68 #[.pointer (some (Z (w4.heap.size+1) 0)),.pointer (some (Z w4.heap.size 0))] bEnc (bDt x no w5.heap.size) (bS x no w5.heap.size) (w.heap.size+1+1) (ln+1) w5:=by
    have ac:=(aj.out.rowO c M).keep ag;rw[HNO.out,hoc] at ac;have aw:=kN aq.out (kM.jK ao.out 0);rw[HLN.out] at aw;exact ZI 5 (by omega) (w.heap.size+1+1) x no J.1 J.2 (ak.out.takes c x HX.out) (w4.heap.size+1) w4.heap.size (.slice oa ok oc) la ln G HLN.out w5 ((je ab 0).trans rfl) ac.at ((je H 1).trans rfl) ((je H 2).trans rfl) ((je H 3).trans rfl) ((je H 4).trans rfl) ((je H 5).trans rfl) aw (by omega) O
   have aE:Hid (w5.heap[w.heap.size+1]?=some (.cells #[vi i] 3 (0,0))):=(B5.block _ (by omega)).trans au.out;have aF:Hid (w5.heap[w.heap.size+1+1]?=some (.cells #[.slice none 0 0] 30 (0,0))):=(B5.block _ (by omega)).trans af.out;clear hw5 H ab ag B5 hHeld I au af aJ c0 c1 d0 d1 d2 d3 d4 d5;have an:w.heap.size+1+1<w5.heap.size:=by omega
   refine yA (α:=Int × Value) rfl (by omega) (gf:=68) (lb := #[.pointer (some (Z (w4.heap.size+1) 0)),.pointer (some (Z w4.heap.size 0))]) rfl trivial (enters_of Tryz.func68 (by kernel_rfl) rfl)
    aa (Below.refl _ _) an (fun _=>rfl)
    (AtI w i w5.heap.size)
    (AtX w i w5.heap.size x no)
    (fun pre y a' U=>AtI w i w5.heap.size pre U∧bDt x no w5.heap.size y U∧∃Bx sa sn sc,y.2=.slice sa sn sc∧U.heap[Bx]?=some (.cells #[.slice sa sn sc] 74 (0,0))∧a' = { tmps := #[.agg #[sq bb off n' bcap,vi vals],vi c,vi i,.pointer (some (Z w.heap.size 0)),undef,.pointer (some (Z (w.heap.size+1) 0)),.pointer (some (Z (w.heap.size+1+1) 0)),vi y.1,.pointer (some (Z Bx 0)),.agg #[sq bb off n' bcap,vi vals],.bool true,.bool false,.bool false,.agg #[sq bb off n' bcap,vi vals],vi c,.bool true,.bool false,.bool false,undef,.pointer (some (Z w.heap.size 0)),sq bb off n' bcap,vi c,.pointer (some (Z bb (off+c*6))),.agg #[.slice pa pn pcap,.slice la ln G,vi x.term.k,vi x.term.a,vi x.term.t,vi x.term.e],.agg #[sq bb off n' bcap,vi vals],.agg #[sq gI 0 n' n',sq gO 0 n' n'],sq gO 0 n' n',vi c,.pointer (some (Z gO c)),.agg #[.slice oa ok oc],.func (.func 68) #[] #[.pointer (some (Z (w4.heap.size+1) 0)),.pointer (some (Z w4.heap.size 0))],vi y.1,.agg #[y.2],undef,undef,undef,undef,undef,undef],defers := [] })
    (fun s X Y h aK=>h.below aK an)
    (fun cd s A B row h hg hr=>h.grown hg hr (by omega))
    (fun pre y a' _ A B row h hg hr=>⟨h.1.grown hg hr (by omega),ag8 h.2.1 hg (fun r e=>(hr r e).2),h.2.2.elim fun Bx h2=>⟨Bx,h2.elim fun sa h3=>⟨sa,h3.elim fun sn h4=>⟨sn,h4.elim fun sc h5=>⟨sc,h5.1,j6 h5.2.1 hg (fun r e=>(hr r e).2),h5.2.2⟩⟩⟩⟩⟩)
    (fun ys U U' row h hg hr=>⟨h.1,h.2.elim fun y hy=>⟨y,hy.1,hy.2.zh hg (fun r e=>(hr r e).2)⟩⟩)
    ⟨fun p hp=>absurd hp (by simp),aE.out,aF.out,ao.out,Nat.le_refl _⟩ ?assign ?body ?done ?stop
   case assign=>
    rintro l2 pre ⟨yi,yv⟩ U K hi hdt hK;have HI:Hid (AtI w i w5.heap.size pre U):=hi;have ah:Hid (bDt x no w5.heap.size (yi,yv) U):=hdt;obtain⟨sa,sn,sc,rfl⟩:∃a m c,yv=.slice a m c:=by obtain⟨j,_,_,h3⟩:=hdt;exact h3.form
    dsimp only[bEnc];clear hi hdt;clear aa O J q4 hoc aC aB aA L ax hbn ay h1 am M
    gi_wp2
    refine hK _ _ ⟨HI.out.below (Bel.aeX _ _ HI.out.size) an,?_,U.heap.size,sa,sn,sc,rfl,World.alloc_heap_new U _,rfl⟩ (jZ.below (Bel.alloc _ _));obtain⟨j,h1,h2,h3⟩:=ah.out;exact⟨j,h1,h2,h3.keep (Bel.alloc _ _)⟩
   case body=>
    rintro l2 pre ⟨yi,yv⟩ a' U ⟨hi,hdt,Bx,sa,sn,sc,hyv,hbox,rfl⟩ _;dsimp only at hyv;subst hyv;have HI:Hid (AtI w i w5.heap.size pre U):=hi;have ah:Hid (bDt x no w5.heap.size (yi,.slice sa sn sc) U):=hdt;have e1:=(xz hi.x1).1;obtain⟨e2,e3⟩:=xz hi.x2;have e4:=(xz hbox).1;clear hi hdt hbox;clear aa O J q4 hoc aC aB aA L ax hbn ay h1 am M;by_cases he:yi=i
    ·have aL:(yi == i)=true:=by simp[he]
     have ai:Hid (yi=i):=he;clear he
     gi_wp2
     refine⟨jZ.setCell _ _,?_⟩;obtain⟨j,h1,h2,h3⟩:=ah.out;dsimp only at h2 h3;exact⟨j,.slice sa sn sc,rfl,by rw[←ai.out];exact h2,h1,aeP HI.out.x2 _,aeQ h3 HI.out.x2 _,HI.out.bel.setCell (p:=(Z (w.heap.size+1+1) 0)) (by show w.heap.size≤w.heap.size+1+1;omega) _,by simpa using HI.out.size⟩
    ·have aL:(yi == i)=false:=by simp[he]
     have ai:Hid (yi≠i):=he;clear he
     gi_wp2
     refine⟨jZ.refl _ _ _,fun p hp=>?_,HI.out.x1,HI.out.x2,HI.out.bel,HI.out.size⟩;rcases List.mem_append.1 hp with hp | hp
     ·exact HI.out.not p hp
     ·simp at hp;subst hp;exact ai.out
   case done=>
    rintro D ys U hD ⟨aH,_⟩ hi hK
    have HE:Hid (xZ F c i = []):=Qn (fun⟨y,h⟩=>by
     have e:y=x:=by have h9:=h.2.2.1;simp at h9;rw[HX.out] at h9;exact(Option.some.inj h9).symm
     subst e;obtain⟨j,rfl⟩:∃j:Nat,i=(j:Int):=⟨i.toNat,by have:=h.2.2.2.1;omega⟩;obtain⟨p,hp,e⟩:=lens_has aH (by have:=h.2.2.2.2;omega:j≤y.list.length)
     exact hi.not p hp e)
    have HI:Hid (AtI w i w5.heap.size ys U):=hi;have HK:Hid (U.heap[D]?=some (.deferred (some []))):=hK;have aG:=(aI hK).1;have aO:=hi.size;obtain⟨k0,k1⟩:=xz ((Below.heap_alloc U (.cells #[] 3) _ (by omega:w.heap.size+1+1<U.heap.size)).trans hi.x2);obtain⟨p1,p2,p3⟩:=adV hi.x2 hi.bel.size (by omega:w.heap.size≤w.heap.size+1+1);obtain⟨U2,hU2⟩:∃U2,(U.alloc (.cells #[] 3)).setCell (Z (w.heap.size+1+1) 0) (sq U.heap.size 0 0 0)=U2:=⟨_,rfl⟩;have K2:U2.heap[D]?=some (.deferred (some [])):=by
     rw[←hU2];exact(Below.heap_setCell _ _ _ D (by show D≠w.heap.size+1+1;omega)).trans ((Below.heap_alloc _ _ _ aG).trans hK)
    rw[hU2] at p1 p2 p3;have P1:Hid (ja U2 w.heap.size (sq U.heap.size 0 0 0) []):=p1;have P2:Hid (U2.heap[w.heap.size+1+1]?=some (.cells #[sq U.heap.size 0 0 0] 30 (0,0))):=p2;have P3:Hid (Below w.heap.size w U2):=hi.bel.trans p3;clear p1 p2 p3 hi hK
    gi_wp2
    try rw[hU2]
    refine⟨by simp,.inl ⟨_,_,rfl,run_takeDeferred K2,?_⟩⟩;refine⟨sq U.heap.size 0 0 0,?_,_,rfl,?_,?_⟩
    ·have e1:=(xz (j6 P2.out (grownBy_putObj' _ D (.deferred none)) (fun r' e=>by cases e;exact⟨_,K2,rfl⟩))).1;simp[results,Tryz.f16,go_sem,e1]
    ·rw[HE.out];exact P1.out.zh (grownBy_putObj' _ D (.deferred none)) (fun r' e=>by cases e;exact⟨_,K2,rfl⟩)
    ·exact P3.out.trans (kX (grownBy_putObj' _ D (.deferred none)) P3.out.size (fun r' e=>by cases e;omega))
   case stop=>
    rintro D cd pre U hD ⟨j,u,rfl,hij,hj,h4,h5,h6,h7⟩ hK;have HE:Hid (xZ F c i=atS x no j):=by
     have:=@Yj F c i x ⟨HP.out,by omega,by simpa using HX.out,by omega,by omega⟩;rw[hij] at this ⊢;rw[←HNO.out];have h9:xZ F c j=atS x (yT F (qz F) c) j:=by simpa using this
     exact h9
    have H4:Hid (U.heap[w.heap.size+1+1]?=some (.cells #[u] 30 (0,0))):=h4;have H5:Hid (ja U w5.heap.size u (atS x no j)):=h5;have H6:Hid (Below w.heap.size w U):=h6;clear h4 h5 h6 hij
    gi_wp2
    refine⟨by simp,.inl ⟨_,_,rfl,run_takeDeferred hK,?_⟩⟩;refine⟨u,?_,_,rfl,?_,?_⟩
    ·have e1:=(xz (j6 H4.out (grownBy_putObj' _ D (.deferred none)) (fun r' e=>by cases e;exact⟨_,hK,rfl⟩))).1;obtain⟨ua,um,uc,rfl⟩:=H5.out.form;simp[results,Tryz.f16,go_sem,e1]
    ·rw[HE.out];exact(H5.out.low (by omega)).zh (grownBy_putObj' _ D (.deferred none)) (fun r' e=>by cases e;exact⟨_,hK,rfl⟩)
    ·exact H6.out.trans (kX (grownBy_putObj' _ D (.deferred none)) H6.out.size (fun r' e=>by cases e;omega))
end Go.Proofs.YtkbhbekfniadhaaGreat
