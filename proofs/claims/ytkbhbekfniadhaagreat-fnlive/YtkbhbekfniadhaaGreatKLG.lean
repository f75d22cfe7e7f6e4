/- What is needed where a block ends is brought up to where it begins: the program's gather, by its contract. -/
import Derived.Test.YtkbhbekfniadhaaGreatTkK
import Derived.Test.YtkbhbekfniadhaaGreatTk0
import Derived.Test.YtkbhbekfniadhaaGreatKLNd
import Derived.Test.YtkbhbekfniadhaaGreatKSh8
import Derived.Test.YtkbhbekfniadhaaGreatKFnCo
set_option maxRecDepth 100000
set_option maxHeartbeats 8000000
namespace Go.Proofs.YtkbhbekfniadhaaGreat
open Go.ChangeShapes Go.WideShapes Go.ChangeAt Go.RowKit Go.Shelf
set_option linter.unusedVariables false
attribute [local go_sem] Oper.semAt_some
theorem afG (f:Nat→List Int)(b:Nat)(l m:List Int):xT (xT f b l) b m=xT f b m:=by
 funext i
 unfold xT;split <;> rfl
def yO (ins:Nat→List Int)(l:List Int):List Int:=l.flatMap (fun s=>ins s.toNat)
def ZN (w0 w:World)(gI gO n b:Nat)(ins outs:Nat→List Int)(no ni:List Int)(e:Ending)(w':World):Prop :=
 ∃us' vs',e=.returned (.bool (decide ((ins b).length<ni.length)))∧jA w' w0.heap.size gI gO n us' vs' (xT ins b ni) (xT outs b no)∧Below w0.heap.size w w'∧(∀(k:Nat) (c:Array Value) (t:TypeId) (z:Nat × Nat),w.heap[k]?=some (.cells c t z)→t≠3→k≠gI→k≠gO→w'.heap[k]?=some (.cells c t z))
def GI (w0 w:World)(gI gO n b N0:Nat)(us:Array Value)(ins outs:Nat→List Int)(ba:Option Addr)(bcap:Nat)(vals:Int)(pre:List Int)(W:World):Prop :=
 ∃vs',jA W w0.heap.size gI gO n us vs' ins (xT outs b (qT (outs b ++ yO ins pre)))∧Below w0.heap.size w W∧N0+4≤W.heap.size∧(∀k,(vs'.getD b Qw).ownBlock=some k→k<N0∨N0+4≤k) ∧
  W.heap[N0]?=some (.cells #[sq gI 0 n n,sq gO 0 n n] 63 (0,0))∧W.heap[N0+1]?=some (.cells #[.slice ba n bcap,vi vals] 26 (0,0))∧W.heap[N0+2]?=some (.cells #[vi b] 3 (0,0))∧(∀(k:Nat) (c:Array Value) (t:TypeId) (z:Nat × Nat),w.heap[k]?=some (.cells c t z)→t≠3→k≠gI→k≠gO→W.heap[k]?=some (.cells c t z))
theorem GI.own {w0 w:World}{gI gO n b N0:Nat}{us:Array Value}{ins outs:Nat→List Int}{ba:Option Addr}{bcap:Nat}{vals:Int}{α:Type}(f:List α→List Int){C:Nat}(hC:w0.heap.size≤C):OwnFrom C (fun(pre:List α) W=>GI w0 w gI gO n b N0 us ins outs ba bcap vals (f pre) W):=fun pre V V' row h hg hr=>by
 obtain⟨G,h1,h2,h3,h7,h4,h5,h6,h8⟩:=h;have B:∀r,row=some r→∃o:Obj,V.heap[r]?=some o∧o.isCells=false:=fun r e=>(hr r e).2
 exact⟨G,h1.zh hg B,h2.trans (kX hg (by have:=h1.ltI;have:=h1.lowI;omega) (fun r e=>by have:=(hr r e).1;omega)),Nat.le_trans h3 hg.size,h7,j6 h4 hg B,j6 h5 hg B,j6 h6 hg B,fun k c t z a1 a2 a3 a4=>j6 (h8 k c t z a1 a2 a3 a4) hg B⟩
theorem je {w:World}{b:Nat}{c:Array Value}{t:TypeId}{z:Nat × Nat}(h:w.heap[b]?=some (.cells c t z))(i:Nat):w.cell? (Z b i)=c[i]?:=by simp[World.cell?,h]
def ahm (u:Value)(pre:List (Int × Value)):Value:=((pre.getLast?).map (fun y=>y.2)).getD u
theorem abm (u:Value){pre:List (Int × Value)}{y:Int × Value}(h:pre.getLast? = some y):ahm u pre=y.2:=by simp[ahm,h]
structure GX (g b:Nat)(us:Array Value)(w:World)(pre:List (Int × Value))(U:World):Prop where
 same:∀k,k<w.heap.size→k≠g→U.heap[k]?=w.heap[k]?
 os:U.os=w.os
 tape:U.tape=w.tape
 output:U.output=w.output
 size:w.heap.size≤U.heap.size
 box:U.heap[g]?=some (.cells (us.setIfInBounds b (ahm (us.getD b Qw) pre)) 74 (0,0))
theorem GX.below {g b:Nat}{us:Array Value}{w:World}{pre:List (Int × Value)}{X Y:World}(h:GX g b us w pre X)(hb:Below w.heap.size X Y)(hg:g<w.heap.size):GX g b us w pre Y :=
 ⟨fun k hk r=>(hb.block k hk).trans (h.same k hk r),hb.os.trans h.os,hb.tape.trans h.tape,hb.output.trans h.output,Nat.le_trans h.size hb.size,(hb.block g hg).trans h.box⟩
theorem GX.put {g b:Nat}{us:Array Value}{w:World}{pre:List (Int × Value)}{X:World}(h:GX g b us w pre X)(hb:b<us.size)(hg:g<w.heap.size)(y:Int × Value):GX g b us w (pre ++ [y]) (X.setCell (Z g b) y.2):=by
 have hsz:(X.setCell (Z g b) y.2).heap.size=X.heap.size:=by show(X.heap.modify _ _).size=_;simp
 refine⟨fun k hk r=>(Below.heap_setCell _ _ _ k (by intro e;exact r e)).trans (h.same k hk r),h.os,h.tape,h.output,by rw[hsz];exact h.size,?_⟩;have h2:=h.box;obtain⟨hl,hk⟩:=aI h2;show(X.heap.modify g _)[g]?=_;rw[Array.getElem?_eq_getElem (by rw[Array.size_modify];exact hl),Array.getElem_modify_self,hk,abm _ (by simp:(pre ++ [y]).getLast? = some y)];show some (Obj.cells ((us.setIfInBounds b _).setIfInBounds b y.2) _ _)=_;simp
theorem Bel.aeX {B:Nat}(w:World)(o:Obj)(h:B≤w.heap.size):Below B w (w.alloc o):=(Below.refl B w).alloc h _
theorem afH (w0:World)(v:Value)(F:FnD)(hF:kJ w0 v F)(n:Nat)(hn:F.blocks.length=n)(hT:∀(j:Nat) x,F.blocks[j]?=some x→Qq x)(hsu:∀(j:Nat),∀s∈succsN F j,0≤s∧s<n)(gI gO:Nat)(us vs:Array Value)(ins outs:Nat→List Int)(b:Nat)(hb:b<n)(w:World)(hw:Below w0.heap.size w0 w)
  (hN:jA w w0.heap.size gI gO n us vs ins outs) (hi1:∀i,Asc (ins i)∧JZ (ins i)) (ho1:∀i,Asc (outs i)∧JZ (outs i)) (x:jc) (hx:F.blocks[b]?=some x) :
  Calls Tryz.prog 65 #[.agg #[sq gI 0 n n,sq gO 0 n n],v,vi b] w fun e w'=>
   ZN w0 w gI gO n b ins outs (qT (outs b ++ yO ins (succsN F b))) (atS x (qT (outs b ++ yO ins (succsN F b))) 0) e w':=by
 have HF:Hid (kJ w0 v F):=hF;have HN:Hid (F.blocks.length=n):=hn;obtain⟨vals,HV⟩:∃x,Hid (F.values=x):=⟨_,rfl⟩;obtain⟨ba,bcap,rfl⟩:=hF.out HN.out HV.out;have aC:n≤9223372036854775807:=by rw[←HN.out];exact hF.most
 have HT:Hid (Qq x):=hT b x hx;have aJ:Hid (∀s∈succsN F b,0≤s∧s<n):=hsu b;have HX:Hid (F.blocks[b]?=some x):=hx;have HW:Hid (Below w0.heap.size w0 w):=hw;have aw:Hid (jA w w0.heap.size gI gO n us vs ins outs):=hN;have ar:Hid (∀i,Asc (ins i)∧JZ (ins i)):=hi1;have ai:Hid (∀i,Asc (outs i)∧JZ (outs i)):=ho1;have aP:=hw.size;have a7:=hN.ltI;have a8:=hN.ltO;have aZ:(b:Int)<(n:Int):=by omega
 obtain⟨kb,HKB⟩:∃k,Hid ((ins b).length=k):=⟨_,rfl⟩;obtain⟨ia,ic,hib⟩:∃a c,us.getD b Qw=.slice a kb c:=by
  rcases(hN.rowI b hb).shape with ⟨e,e2⟩ | ⟨g,cap,e⟩
  ·exact⟨none,0,by rw[e,←HKB.out,e2];rfl⟩
  ·exact⟨_,_,by rw[e,HKB.out]⟩
 obtain⟨cI,_⟩:=hN.cellI hb;rw[hib] at cI;obtain⟨bb,off,hba,pv,lv,c0,c1,c2,c3,c4,c5,hpv,hlv⟩:=kJ.yg (hF.later hw) HN.out hb hx;subst hba;obtain⟨wA,hwA⟩:∃wA,((w.alloc (.cells #[sq gI 0 n n,sq gO 0 n n] 63)).alloc (.cells #[sq bb off n bcap,vi vals] 26)).alloc (.cells #[vi b] 3)=wA:=⟨_,rfl⟩;have BA:Hid (Below w.heap.size w wA):=by rw[←hwA];repeat (first | exact Below.refl _ _ | apply Below.drew | refine Below.alloc ?_ (by simp <;> omega) _ | refine Below.setCell ?_ (by simp <;> omega) _)
 have aR:wA.heap.size=w.heap.size+3:=by rw[←hwA];simp
 have x0:wA.heap[w.heap.size]?=some (.cells #[sq gI 0 n n,sq gO 0 n n] 63 (0,0)):=by
  rw[←hwA,Below.heap_alloc _ _ _ (by simp <;> omega),Below.heap_alloc _ _ _ (by simp)];exact World.alloc_heap_new w _
 have x1:wA.heap[w.heap.size+1]?=some (.cells #[sq bb off n bcap,vi vals] 26 (0,0)):=by
  rw[←hwA,Below.heap_alloc _ _ _ (by simp)];have:=World.alloc_heap_new (w.alloc (.cells #[sq gI 0 n n,sq gO 0 n n] 63)) (.cells #[sq bb off n bcap,vi vals] 26)
  rwa [World.size_alloc] at this
 have x2:wA.heap[w.heap.size+2]?=some (.cells #[vi b] 3 (0,0)):=by
  rw[←hwA];have:=World.alloc_heap_new ((w.alloc (.cells #[sq gI 0 n n,sq gO 0 n n] 63)).alloc (.cells #[sq bb off n bcap,vi vals] 26)) (.cells #[vi b] 3)
  rwa [World.size_alloc,World.size_alloc] at this
 have y0:wA.cell? (Z w.heap.size 0)=some (sq gI 0 n n):=by simp[World.cell?,x0]
 have y2:wA.cell? (Z (w.heap.size+1) 0)=some (sq bb off n bcap):=by simp[World.cell?,x1]
 have y3:wA.cell? (Z (w.heap.size+2) 0)=some (vi b):=by simp[World.cell?,x2]
 replace cI:=Bel.keeps BA.out cI;have C2:=Bel.keeps BA.out c2;have C3:=Bel.keeps BA.out c3;have C4:=Bel.keeps BA.out c4;have C5:=Bel.keeps BA.out c5;have X0:Hid (wA.heap[w.heap.size]?=some (.cells #[sq gI 0 n n,sq gO 0 n n] 63 (0,0))):=x0;have X1:Hid (wA.heap[w.heap.size+1]?=some (.cells #[sq bb off n bcap,vi vals] 26 (0,0))):=x1;have X2:Hid (wA.heap[w.heap.size+2]?=some (.cells #[vi b] 3 (0,0))):=x2;have aV:Hid (jz 0 2 (yz 0) w pv x.phis):=hpv;have aU:Hid (jz 0 5 jU w lv x.list):=hlv;clear hF hn hT hsu hw hN hi1 ho1 hx x0 x1 x2 hpv hlv;refine(callsIn_wide (n:=6)).1 ?_;refine callsIn_of_wp_marks Tryz.func65 rfl trivial ?_ rfl;simp only[Tryz.ntmps65,List.size_toArray,List.length_cons,List.length_nil,Nat.reduceAdd,Nat.reduceSub,Array.replicate_succ,Array.replicate_zero,List.push_toArray,List.append_toArray,List.nil_append,List.cons_append]
 gi_wp2_with (refine⟨trivial,?_⟩;gi_at_call 44;refine(callsIn_wide.2 (acv _ _ _ _ _)).mono ?_;rintro e w' ⟨rfl,rfl⟩)
 obtain⟨W0,hW0⟩:∃W0,wA.alloc (.cells #[vi x.term.k,vi x.term.a,vi x.term.t,vi x.term.e] 41)=W0:=⟨_,rfl⟩;have B0:Hid (Below wA.heap.size wA W0):=by rw[←hW0];exact Bel.alloc _ _
 have bd:W0.heap.size=w.heap.size+4:=by rw[←hW0];simp;omega
 have aM:Jh W0 (w.heap.size+3) x.term.k x.term.a x.term.t x.term.e:=by rw[←hW0,←aR];exact Jh.new _ _ _ _ _
 have aF:succsN F b=xR x.term.k x.term.t x.term.e:=adx HX.out;have aA:GI w0 w gI gO n b w.heap.size us ins outs (some (Z bb off)) bcap vals [] W0:=by
  refine⟨vs,?_,(BA.out.mono aP).trans (B0.out.mono (by omega)),by omega,fun k hk=>.inl (aw.out.lt false hb hk).2,(B0.out.block _ (by omega)).trans X0.out,(B0.out.block _ (by omega)).trans X1.out,(B0.out.block _ (by omega)).trans X2.out,fun k c t z a1 _ _ _=>by have hk:=(aI a1).1;exact(B0.out.block k (by omega)).trans ((BA.out.block k hk).trans a1)⟩;have e:xT outs b (qT (outs b ++ yO ins []))=outs:=by
   have:qT (outs b ++ yO ins [])=outs b:=by rw[show yO ins [] = [] from rfl,List.append_nil];exact(norm_eq (ai.out b).1 (ai.out b).2 (fun _=>Iff.rfl)).symm
   rw[this,Ko]
  rw[e];exact(aw.out.keep BA.out).keep B0.out
 rw[hW0];clear hW0;have L:OwnFrom W0.heap.size (fun(pre:List {z:Int // 0≤z∧z<n}) W=>GI w0 w gI gO n b w.heap.size us ins outs (some (Z bb off)) bcap vals (pre.map (fun z=>z.1)) W):=GI.own _ (by omega);refine Xe (α := {z:Int // 0≤z∧z<n}) rfl (by omega) (gf:=67) (lb := #[.pointer (some (Z (w.heap.size+3) 0))]) rfl trivial (enters_of Tryz.func67 (by kernel_rfl) rfl)
  (aay (fun z=>0≤z∧z<n) 5 (by omega) (w.heap.size+3) x.term.k x.term.a x.term.t x.term.e (fun z hz=>aJ.out z (by rw[aF];exact hz)) W0 (by omega) aM) aip (aiC (by omega)) (Below.refl _ _) (fun _=>rfl)
  (fun pre W=>GI w0 w gI gO n b w.heap.size us ins outs (some (Z bb off)) bcap vals (pre.map (fun z=>z.1)) W)
  (fun _ _ _=>False)
  (fun pre y a' W=>GI w0 w gI gO n b w.heap.size us ins outs (some (Z bb off)) bcap vals (pre.map (fun z=>z.1)) W∧a' = { tmps := #[.agg #[sq gI 0 n n,sq gO 0 n n],.agg #[sq bb off n bcap,vi vals],vi b,.pointer (some (Z w.heap.size 0)),.pointer (some (Z (w.heap.size+1) 0)),.pointer (some (Z (w.heap.size+1+1) 0)),.bool false,vi kb,vi y.1,undef,undef,.pointer (some (Z w.heap.size 0)),sq gI 0 n n,vi b,.pointer (some (Z gI b)),.pointer (some (Z gI b)),.slice ia kb ic,vi kb,.pointer (some (Z (w.heap.size+1) 0)),sq bb off n bcap,vi b,.pointer (some (Z bb (off+b*6))),.pointer (some (Z bb (off+b*6+2))),.agg #[vi x.term.k,vi x.term.a,vi x.term.t,vi x.term.e],.func (.func 67) #[] #[.pointer (some (Z (w.heap.size+3) 0))],vi y.1,undef,undef,undef,undef,undef,undef,undef,undef,undef,undef,undef,undef,undef,undef,undef,undef,undef,undef,undef,undef,undef,undef,undef,undef,undef,undef,undef,undef,undef,undef,undef,undef,undef,undef,undef,undef,undef,undef],defers := [] })
  L (fun c=>ownFrom_pure _ _) (fun pre y a' _ V V' row h hg hr=>⟨L pre V V' row h.1 hg hr,h.2⟩) aA ?assign ?body ?done ?stop
 case assign=>
  intro l2 pre y V K hi hK
  gi_wp2
  exact hK _ _ ⟨hi,rfl⟩ (KeepsFrom.refl _ _) rfl
 case body=>
  rintro l2 pre ⟨y,hy0,hy1⟩ a' V ⟨⟨G,hNV,hBV,hsz,hnum,z0,z1,z2,z3⟩,rfl⟩ _;obtain⟨s,rfl⟩:∃s:Nat,y=(s:Int):=⟨y.toNat,by omega⟩;have M:s<n:=by omega
  have q0:V.cell? (Z w.heap.size 0)=some (sq gI 0 n n):=by simp[World.cell?,z0]
  have q1:V.cell? (Z w.heap.size 1)=some (sq gO 0 n n):=by simp[World.cell?,z0]
  have q2:V.cell? (Z (w.heap.size+1+1) 0)=some (vi b):=by simp[World.cell?,z2]
  obtain⟨q3,_⟩:=hNV.cellI M;have NV:Hid (jA V w0.heap.size gI gO n us G ins (xT outs b (qT (outs b ++ yO ins (pre.map (fun z=>z.1)))))):=hNV;have BV:Hid (Below w0.heap.size w V):=hBV;have aj:Hid (∀k,(G.getD b Qw).ownBlock=some k→k<w.heap.size∨w.heap.size+4≤k):=hnum;have Z0:Hid (V.heap[w.heap.size]?=some (.cells #[sq gI 0 n n,sq gO 0 n n] 63 (0,0))):=z0;have Z1:Hid (V.heap[w.heap.size+1]?=some (.cells #[sq bb off n bcap,vi vals] 26 (0,0))):=z1;have Z2:Hid (V.heap[w.heap.size+2]?=some (.cells #[vi b] 3 (0,0))):=z2;obtain⟨sa,sn,sc,hsh⟩:∃a k c,us.getD s Qw=.slice a k c:=by
   rcases(hNV.rowI s M).shape with ⟨e,_⟩ | ⟨g,cap,e⟩
   ·exact⟨_,_,_,e⟩
   ·exact⟨_,_,_,e⟩
  rw[hsh] at q3;have Z3:Hid (∀(k:Nat) (c:Array Value) (t:TypeId) (z:Nat × Nat),w.heap[k]?=some (.cells c t z)→t≠3→k≠gI→k≠gO→V.heap[k]?=some (.cells c t z)):=z3;clear hNV hBV hnum z0 z1 z2 z3;dsimp only
  gi_wp2
  refine abZ (S:=fun W'=>W'.cell? (Z w.heap.size 0)=some (sq gI 0 n n)∧W'.cell? (Z w.heap.size 1)=some (sq gO 0 n n)∧W'.cell? (Z (w.heap.size+1+1) 0)=some (vi b)∧W'.cell? (Z gI s)=some (.slice sa sn sc)) (by kernel_rfl) (by kernel_rfl) ⟨q0,q1,q2,q3⟩ (fun hHeld=>?_);have be:(s:Int)<(n:Int):=by omega
  refine tkA 0 ⟨some 26,.fieldAddr 63 (.tmp 3) 1,0,"l11_live.go:80",#[],none⟩ ?_ (fun w h=>?_) ?_;rotate_left
  ·(try dsimp only at h);go_simp;(try with_reducible rfl)
  try simp only[Act.put,sT,sZ,sS]
  refine tkA 1 ⟨some 27,.load 61 (.tmp 26),61,"l11_live.go:80",#[⟨0,.data⟩],none⟩ ?_ (fun w h=>?_) ?_;rotate_left
  ·(try dsimp only at h);go_simp;(try with_reducible rfl)
  try simp only[Act.put,sT,sZ,sS]
  refine tkA 2 ⟨some 28,.load 3 (.tmp 5),3,"l11_live.go:80",#[],none⟩ ?_ (fun w h=>?_) ?_;rotate_left
  ·(try dsimp only at h);go_simp;(try with_reducible rfl)
  try simp only[Act.put,sT,sZ,sS]
  refine tkA 3 ⟨some 29,.indexAddr 61 (.tmp 27) (.tmp 28),0,"l11_live.go:80",#[⟨1,.data⟩,⟨2,.data⟩],none⟩ ?_ (fun w h=>?_) ?_;rotate_left
  ·(try dsimp only at h);go_simp;(try with_reducible rfl)
  try simp only[Act.put,sT,sZ,sS]
  refine tkA 4 ⟨some 30,.fieldAddr 63 (.tmp 3) 0,0,"l11_live.go:80",#[],none⟩ ?_ (fun w h=>?_) ?_;rotate_left
  ·(try dsimp only at h);go_simp;(try with_reducible rfl)
  try simp only[Act.put,sT,sZ,sS]
  refine tkA 5 ⟨some 31,.load 61 (.tmp 30),61,"l11_live.go:80",#[⟨4,.data⟩],none⟩ ?_ (fun w h=>?_) ?_;rotate_left
  ·(try dsimp only at h);go_simp;(try with_reducible rfl)
  try simp only[Act.put,sT,sZ,sS]
  refine tkA 6 ⟨some 32,.move (.tmp 8),3,"l11_live.go:80",#[],none⟩ ?_ (fun w h=>?_) ?_;rotate_left
  ·(try dsimp only at h);go_simp;(try with_reducible rfl)
  try simp only[Act.put,sT,sZ,sS]
  refine tkA 7 ⟨some 33,.indexAddr 61 (.tmp 31) (.tmp 32),0,"l11_live.go:80",#[⟨5,.data⟩,⟨6,.data⟩],none⟩ ?_ (fun w h=>?_) ?_;rotate_left
  ·(try dsimp only at h);go_simp;(try with_reducible rfl)
  try simp only[Act.put,sT,sZ,sS]
  refine tkA 8 ⟨some 34,.fieldAddr 74 (.tmp 33) 0,0,"l11_live.go:80",#[⟨7,.data⟩],none⟩ ?_ (fun w h=>?_) ?_;rotate_left
  ·(try dsimp only at h);go_simp;(try with_reducible rfl)
  try simp only[Act.put,sT,sZ,sS]
  refine tkA 9 ⟨some 35,.load 30 (.tmp 34),30,"l11_live.go:80",#[⟨8,.data⟩],none⟩ ?_ (fun w h=>?_) ?_;rotate_left
  ·(try dsimp only at h);go_simp;(try with_reducible rfl)
  try simp only[Act.put,sT,sZ,sS]
  clear hHeld q0 q1 q2 q3;refine jg (i:=10) (o:=⟨some 36,.call ⟨.value (.func 70),#[.tmp 29,.tmp 35],#[74,30]⟩,0,"l11_live.go:80",#[⟨3,.data⟩,⟨9,.data⟩],none⟩) rfl rfl (by kernel_rfl) (fun K9 af=>?_);have hr:=NV.out.rowI s M;have aN:∀c,(Value.slice sa sn sc).ownBlock=some c→c<V.drew.heap.size∧c≠gO∧some c≠(G.getD b Qw).ownBlock:=fun c hc=>by
   rw[←hsh] at hc;exact⟨(NV.out.lt true M hc).2,fun e=>NV.out.notO true M (by rw[←e];exact hc.symm),fun e=>NV.out.apart true false s b M hb (by simp) c hc e.symm⟩
  rw[hsh] at hr;have I:=NV.out.setO hb;rw[Kn] at I;refine jx (f:=70) (args := #[.pointer (some (Z gO b)),.slice sa sn sc]) (YV rfl (by kernel_rfl) (by kernel_rfl) (enters_of Tryz.func70 (by kernel_rfl) rfl) _) (ad4 w0.heap.size gO b (G.getD b Qw) (.slice sa sn sc) (qT (outs b ++ yO ins (pre.map (fun z=>z.1)))) (ins s) V.drew ⟨I.cell,I.fz,I.row,I.ne⟩ (yF _) (Qp _) (by show w0.heap.size≤V.heap.size;omega) hr.at (ar.out s).2 aN) ?_;rintro e V2 ⟨⟨r2,rfl⟩,sv2,l2',aE,ha2,hr2,hm2,ht2,ho2⟩;have ag:kr V V2 gO b (G.getD b Qw).ownBlock sv2:=⟨ht2.os,ht2.tape,ht2.output,ht2.size,ht2.block,ht2.box⟩;have aq:V.heap.size≤V2.heap.size:=ht2.size;have kp:∀(k:Nat) (ob:Obj),V.heap[k]?=some ob→k≠gO→some k≠(G.getD b Qw).ownBlock→V2.heap[k]?=some ob:=fun k ob h1 h2 h3=>(ag.block k (aI h1).1 h2 h3).trans h1
  have k0:=kp _ _ Z0.out (by omega) (Kj (NV.out.rowO b hb) Z0.out (by decide));have k1:=kp _ _ Z1.out (by omega) (Kj (NV.out.rowO b hb) Z1.out (by decide));have k2:=kp _ _ Z2.out (by omega) (fun e=>by rcases aj.out _ e.symm with h | h <;> omega);have k3:=(World.cell?_of_block (w:=V) (a:=(Z gI s)) ((kp _ _ NV.out.boxI NV.out.ne (fun e=>NV.out.notI false hb e)).trans NV.out.boxI.symm)).trans (NV.out.cellI M).1;rw[hsh] at k3;refine⟨_,rfl,af _ _ ⟨⟨by simp[World.cell?,k0],by simp[World.cell?,k0],by simp[World.cell?,k2],k3⟩,?_⟩⟩;refine wpAnyH_done (by kernel_rfl) ?_ _;have an:=NV.out.putO hb ag aE.row ho2;rw[afG] at an
  have el:l2'=qT (outs b ++ yO ins ((pre ++ [(⟨(s:Int),hy0,hy1⟩:{z:Int // 0≤z∧z<n})]).map (fun z=>z.1))):=norm_eq ha2 hr2 (fun z=>by
   rw[hm2 z,qM,List.map_append,List.mem_append,List.mem_append];unfold yO;rw[List.flatMap_append,List.mem_append];simp only[List.map_cons,List.map_nil,List.flatMap_cons,List.flatMap_nil,List.append_nil,Int.toNat_natCast];constructor
   ·rintro(⟨h1 | h1,_⟩ | h1)
    ·exact .inl h1
    ·exact .inr (.inl h1)
    ·exact .inr (.inr h1)
   ·rintro(h1 | h1 | h1)
    ·exact .inl ⟨.inl h1,(ai.out b).2 z h1⟩
    ·obtain⟨q,hq,hz⟩:=List.mem_flatMap.1 h1;exact .inl ⟨.inr h1,(ar.out _).2 z hz⟩
    ·exact .inr h1)
  rw[el] at an;refine⟨⟨aq,fun k ob hk h0 hc=>kp k ob h0 (fun e=>?_) (aeR (NV.out.rowO b hb) h0 hc)⟩,?_,?_⟩
  ·subst e;rw[NV.out.boxO] at h0;cases h0
   cases hc
  ·exact ag.block _ (by omega) (by omega) (fun e=>by rcases aj.out _ e.symm with h | h <;> omega)
  ·have O:b<G.size:=by rw[NV.out.sizeO];exact hb
   exact⟨_,an,BV.out.trans (ag.below (NV.out.lowO) (fun k hk=>(NV.out.lt false hb hk).1) (by omega)),by omega,fun k hk=>(by rw[Ja O,if_pos rfl] at hk;rcases ho2 with e | e;(rw[e] at hk;exact aj.out k hk);(have:=e k hk;exact .inr (by show _≤k;have h9:V.heap.size≤k:=this;omega))),k0,k1,k2,fun k c t z a1 a2 a3 a4=>kp k _ (Z3.out k c t z a1 a2 a3 a4) a4 (Kj (NV.out.rowO b hb) (Z3.out k c t z a1 a2 a3 a4) a2)⟩
 case done=>
  rintro D ys V hD hS ⟨G,hNV,hBV,hsz,hnum,z0,z1,z2,z3⟩ hK;rw[hS,←aF] at hNV;obtain⟨no,HNO⟩:∃l,Hid (qT (outs b ++ yO ins (succsN F b))=l):=⟨_,rfl⟩;rw[HNO.out] at hNV;have NV:Hid (jA V w0.heap.size gI gO n us G ins (xT outs b no)):=hNV;have BV:Hid (Below w0.heap.size w V):=hBV;have ax:Hid (Asc no∧JZ no):=by rw[←HNO.out];exact⟨yF _,Qp _⟩
  have HK:Hid (V.heap[D]?=some (.deferred (some []))):=hK;have ay:kJ V (.agg #[sq bb off n bcap,vi vals]) F:=HF.out.later (HW.out.trans hBV);obtain⟨aW,off',e,pv,lv,d0,d1,d2,d3,d4,d5,hpv,hlv⟩:=kJ.yg ay HN.out hb HX.out;cases e
  have aa:Hid (jz 0 5 jU V lv x.list):=hlv;obtain⟨pa,pcap,rfl,hpm,-⟩:=hpv;obtain⟨la,B,rfl,hlm,-⟩:=hlv;obtain⟨pn,HPN⟩:∃z,Hid (x.phis.length=z):=⟨_,rfl⟩;obtain⟨ln,HLN⟩:∃z,Hid (x.list.length=z):=⟨_,rfl⟩;rw[HPN.out] at d0;rw[HLN.out] at d1;have q0:V.cell? (Z w.heap.size 0)=some (sq gI 0 n n):=by simp[World.cell?,z0]
  have q1:V.cell? (Z w.heap.size 1)=some (sq gO 0 n n):=by simp[World.cell?,z0]
  have q2:V.cell? (Z (w.heap.size+1+1) 0)=some (vi b):=by simp[World.cell?,z2]
  have q4:V.cell? (Z (w.heap.size+1) 0)=some (sq bb off n bcap):=by simp[World.cell?,z1]
  have q3:=(hNV.setO hb).cell;obtain⟨oa,ok,oc,hsh⟩:∃a k c,G.getD b Qw=.slice a k c:=by
   rcases(hNV.rowO b hb).shape with ⟨e,_⟩ | ⟨g,cap,e⟩
   ·exact⟨_,_,_,e⟩
   ·exact⟨_,_,_,e⟩
  rw[hsh] at q3;have Z0:Hid (V.heap[w.heap.size]?=some (.cells #[sq gI 0 n n,sq gO 0 n n] 63 (0,0))):=z0;have Z2:Hid (V.heap[w.heap.size+2]?=some (.cells #[vi b] 3 (0,0))):=z2;have Z3:Hid (∀(k:Nat) (c:Array Value) (t:TypeId) (z:Nat × Nat),w.heap[k]?=some (.cells c t z)→t≠3→k≠gI→k≠gO→V.heap[k]?=some (.cells c t z)):=z3;clear hNV hBV z0 z1 z2 z3 ay hK y0 y2 y3 cI C2 C3 C4 C5 c0 c1 c2 c3 c4 c5 aA L
  gi_wp2
  refine Kq (S:=fun W'=>W'.cell? (Z (w.heap.size+1) 0)=some (sq bb off n bcap)∧W'.cell? (Z (w.heap.size+1+1) 0)=some (vi b)∧W'.cell? (Z w.heap.size 1)=some (sq gO 0 n n)∧W'.cell? (Z gO b)=some (.slice oa ok oc)∧W'.cell? (Z bb (off+b*6))=some (.slice pa pn pcap)∧W'.cell? (Z bb (off+b*6+1))=some (.slice la ln B)∧W'.cell? (Z bb (off+b*6+2))=some (vi x.term.k)∧W'.cell? (Z bb (off+b*6+3))=some (vi x.term.a)∧W'.cell? (Z bb (off+b*6+4))=some (vi x.term.t)∧W'.cell? (Z bb (off+b*6+5))=some (vi x.term.e)) (by kernel_rfl) ⟨q4,q2,q1,q3,d0,d1,d2,d3,d4,d5⟩ (fun hHeld=>?_);refine tkA 0 ⟨some 37,.fieldAddr 26 (.tmp 4) 0,0,"l11_live.go:82",#[],none⟩ ?_ (fun w h=>?_) ?_;rotate_left
  ·(try dsimp only at h);go_simp;(try with_reducible rfl)
  try simp only[Act.put,sT,sZ,sS]
  refine tkA 1 ⟨some 38,.load 24 (.tmp 37),24,"l11_live.go:82",#[⟨0,.data⟩],none⟩ ?_ (fun w h=>?_) ?_;rotate_left
  ·(try dsimp only at h);go_simp;(try with_reducible rfl)
  try simp only[Act.put,sT,sZ,sS]
  refine tkA 2 ⟨some 39,.load 3 (.tmp 5),3,"l11_live.go:82",#[],none⟩ ?_ (fun w h=>?_) ?_;rotate_left
  ·(try dsimp only at h);go_simp;(try with_reducible rfl)
  try simp only[Act.put,sT,sZ,sS]
  refine tkA 3 ⟨some 40,.indexAddr 24 (.tmp 38) (.tmp 39),0,"l11_live.go:82",#[⟨1,.data⟩,⟨2,.data⟩],none⟩ ?_ (fun w h=>?_) ?_;rotate_left
  ·(try dsimp only at h);go_simp;(try with_reducible rfl)
  try simp only[Act.put,sT,sZ,sS]
  refine tkA 4 ⟨some 41,.load 43 (.tmp 40),43,"l11_live.go:82",#[⟨3,.data⟩],none⟩ ?_ (fun w h=>?_) ?_;rotate_left
  ·(try dsimp only at h);go_simp;(try with_reducible rfl)
  try simp only[Act.put,sT,sZ,sS]
  refine tkA 5 ⟨some 42,.fieldAddr 63 (.tmp 3) 1,0,"l11_live.go:82",#[],none⟩ ?_ (fun w h=>?_) ?_;rotate_left
  ·(try dsimp only at h);go_simp;(try with_reducible rfl)
  try simp only[Act.put,sT,sZ,sS]
  refine tkA 6 ⟨some 43,.load 61 (.tmp 42),61,"l11_live.go:82",#[⟨5,.data⟩],none⟩ ?_ (fun w h=>?_) ?_;rotate_left
  ·(try dsimp only at h);go_simp;(try with_reducible rfl)
  try simp only[Act.put,sT,sZ,sS]
  refine tkA 7 ⟨some 44,.load 3 (.tmp 5),3,"l11_live.go:82",#[],none⟩ ?_ (fun w h=>?_) ?_;rotate_left
  ·(try dsimp only at h);go_simp;(try with_reducible rfl)
  try simp only[Act.put,sT,sZ,sS]
  refine tkA 8 ⟨some 45,.indexAddr 61 (.tmp 43) (.tmp 44),0,"l11_live.go:82",#[⟨6,.data⟩,⟨7,.data⟩],none⟩ ?_ (fun w h=>?_) ?_;rotate_left
  ·(try dsimp only at h);go_simp;(try with_reducible rfl)
  try simp only[Act.put,sT,sZ,sS]
  refine tkA 9 ⟨some 46,.load 74 (.tmp 45),74,"l11_live.go:82",#[⟨8,.data⟩],none⟩ ?_ (fun w h=>?_) ?_;rotate_left
  ·(try dsimp only at h);go_simp;(try with_reducible rfl)
  try simp only[Act.put,sT,sZ,sS]
  refine jg (i:=10) (o:=⟨some 47,.call ⟨.value (.func 45),#[.tmp 41,.tmp 46],#[43,74]⟩,71,"l11_live.go:82",#[⟨4,.data⟩,⟨9,.data⟩],none⟩) rfl rfl (by kernel_rfl) (fun K9 af=>?_);refine jx (f:=45) (args := #[.agg #[.slice pa pn pcap,.slice la ln B,vi x.term.k,vi x.term.a,vi x.term.t,vi x.term.e],.agg #[.slice oa ok oc]]) (YV rfl (by kernel_rfl) (by kernel_rfl) (enters_of Tryz.func45 (by kernel_rfl) rfl) _) (Kk pa la oa pn pcap ln B ok oc x.term.k x.term.a x.term.t x.term.e V.drew) ?_;rintro e V2 ⟨rfl,hV2⟩;have B2:Below V.heap.size V V2:=by rw[hV2];exact((Below.refl _ V).drew).trans (((Below.refl V.heap.size V.drew).alloc (Nat.le_refl _) _).alloc (by simp) _)
  refine⟨_,rfl,af _ _ ⟨⟨Bel.keeps B2 q4,Bel.keeps B2 q2,Bel.keeps B2 q1,Bel.keeps B2 q3,Bel.keeps B2 d0,Bel.keeps B2 d1,Bel.keeps B2 d2,Bel.keeps B2 d3,Bel.keeps B2 d4,Bel.keeps B2 d5⟩,?_⟩⟩;refine wpAnyH_done (by kernel_rfl) ?_ _;simp only[onlyNormal,Exit.then,Act.put,sT,sS,sZ]
  go_at_K
  gi_wp2
  have H:V2.heap[V.heap.size]?=some (.cells #[.slice pa pn pcap,.slice la ln B,vi x.term.k,vi x.term.a,vi x.term.t,vi x.term.e] 43 (0,0)):=by
   rw[hV2,Below.heap_alloc _ _ _ (by simp)];exact World.alloc_heap_new V.drew _
  have ac:V2.heap[V.heap.size+1]?=some (.cells #[.slice oa ok oc] 74 (0,0)):=by
   rw[hV2];have:=World.alloc_heap_new (V.drew.alloc (.cells #[.slice pa pn pcap,.slice la ln B,vi x.term.k,vi x.term.a,vi x.term.t,vi x.term.e] 43)) (.cells #[.slice oa ok oc] 74)
   rwa [World.size_alloc] at this
  have aE:V2.heap.size=V.heap.size+2:=by rw[hV2];simp
  have N2:Hid (jA V2 w0.heap.size gI gO n us G ins (xT outs b no)):=NV.out.keep B2;have ad:gI<V2.heap.size:=N2.out.ltI;have ao:0<ln→∀c J,la=some (Z c J)→c≠gI:=fun hp c J e e2=>by
   have hl:0<x.list.length:=by have:=HLN.out;omega
   have au:=aa.out;rw[HLN.out] at au;obtain⟨c',off',e',hi⟩:=ZG au (List.getElem?_eq_getElem hl);rw[e] at e';cases e'
   have hc:=hi.1;subst e2;simp only[World.cell?,NV.out.boxI] at hc;obtain⟨bc,hc⟩:=aI hc;have aS:=NV.out.sizeI;have hr:=NV.out.rowI (J+0*5) (by omega);have eg:us.getD (J+0*5) Qw=us[J+0*5]:=(Array.getElem_eq_getD Qw).symm;rw[eg,hc] at hr;rcases hr.shape with ⟨e9,_⟩ | ⟨_,_,e9⟩ <;> cases e9
  have ap:ahr Fence.wide 5 Tryz.prog 68 #[.pointer (some (Z (V.heap.size+1) 0)),.pointer (some (Z V.heap.size 0))] bEnc (bDt x no V2.heap.size) (bS x no V2.heap.size) gI (ln+1) V2:=by
   have ae:=N2.out.rowO b hb;rw[Kn,hsh] at ae;have aB:=kN aa.out (kM.jK B2 0);rw[HLN.out] at aB;exact ZI 5 (by omega) gI x no ax.out.1 ax.out.2 HT.out (V.heap.size+1) V.heap.size (.slice oa ok oc) la ln B HLN.out V2 ((je ac 0).trans rfl) ae.at ((je H 1).trans rfl) ((je H 2).trans rfl) ((je H 3).trans rfl) ((je H 4).trans rfl) ((je H 5).trans rfl) aB (by have:=NV.out.ltI;omega) ao
  have aT:us.setIfInBounds b (ahm (us.getD b Qw) [])=us:=ae1 (by rw[Array.getD_eq_getD_getElem?,Array.getElem?_eq_getElem (by rw[NV.out.sizeI];exact hb)];rfl);have aL:GX gI b us V2 [] V2:=⟨fun _ _ _=>rfl,rfl,rfl,rfl,Nat.le_refl _,by rw[aT];exact N2.out.boxI⟩;have y0:=Bel.keeps B2 q0;have y2:=Bel.keeps B2 q2;have KD:Hid (V2.heap[D]?=some (.deferred (some []))):=(B2.block D (aI HK.out).1).trans HK.out;have aG:Hid (Below w0.heap.size w V2):=BV.out.trans (B2.mono (by omega));have aX:=(aI KD.out).1;have ab:D≠gI:=by omega
  have Z4:Hid (∀(k:Nat) (c:Array Value) (t:TypeId) (z:Nat × Nat),w.heap[k]?=some (.cells c t z)→t≠3→k≠gI→k≠gO→V2.heap[k]?=some (.cells c t z)):=fun k c t z a1 a2 a3 a4=>by
   have a5:=Z3.out k c t z a1 a2 a3 a4;exact(B2.block k (aI a5).1).trans a5
  clear hV2 H ac B2 hHeld af;refine yA (α:=Int × Value) rfl (by omega) (gf:=68) (lb := #[.pointer (some (Z (V.heap.size+1) 0)),.pointer (some (Z V.heap.size 0))]) rfl trivial (enters_of Tryz.func68 (by kernel_rfl) rfl)
   ap (Below.refl _ _) ad (fun _=>rfl)
   (GX gI b us V2)
   (fun _ _ _=>False)
   (fun pre y a' U=>GX gI b us V2 pre U∧∃Bx sa sn sc,y.2=.slice sa sn sc∧V2.heap.size≤Bx∧U.heap[Bx]?=some (.cells #[.slice sa sn sc] 74 (0,0))∧a' = { tmps := #[.agg #[sq gI 0 n n,sq gO 0 n n],.agg #[sq bb off n bcap,vi vals],vi b,.pointer (some (Z w.heap.size 0)),.pointer (some (Z (w.heap.size+1) 0)),.pointer (some (Z (w.heap.size+1+1) 0)),.bool false,vi kb,undef,undef,.pointer (some (Z Bx 0)),.pointer (some (Z w.heap.size 0)),sq gI 0 n n,vi b,.pointer (some (Z gI b)),.pointer (some (Z gI b)),.slice ia kb ic,vi kb,.pointer (some (Z (w.heap.size+1) 0)),sq bb off n bcap,vi b,.pointer (some (Z bb (off+b*6))),.pointer (some (Z bb (off+b*6+2))),.agg #[vi x.term.k,vi x.term.a,vi x.term.t,vi x.term.e],.func (.func 67) #[] #[.pointer (some (Z (w.heap.size+3) 0))],undef,undef,undef,undef,undef,undef,undef,undef,undef,undef,undef,undef,.pointer (some (Z (w.heap.size+1) 0)),sq bb off n bcap,vi b,.pointer (some (Z bb (off+b*6))),.agg #[.slice pa pn pcap,.slice la ln B,vi x.term.k,vi x.term.a,vi x.term.t,vi x.term.e],.pointer (some (Z w.heap.size 1)),sq gO 0 n n,vi b,.pointer (some (Z gO b)),.agg #[.slice oa ok oc],.func (.func 68) #[] #[.pointer (some (Z (V.heap.size+1) 0)),.pointer (some (Z V.heap.size 0))],vi y.1,.agg #[y.2],undef,undef,undef,undef,undef,undef,undef,undef,undef,undef,undef,undef,undef,undef],defers := [] })
   (fun s X Y h aO=>h.below aO ad)
   (fun c=>ownFrom_pure _ _)
   (fun pre y a' _ U U' row h hg hr=>⟨h.1.below (kX hg (by have:=h.1.size;omega) (fun r e=>(hr r e).1)) ad,h.2.elim fun Bx h2=>⟨Bx,h2.elim fun sa h3=>⟨sa,h3.elim fun sn h4=>⟨sn,h4.elim fun sc h5=>⟨sc,h5.1,h5.2.1,j6 h5.2.2.1 hg (fun r e=>(hr r e).2),h5.2.2.2⟩⟩⟩⟩⟩)
   (fun ys U U' row h hg hr=>⟨h.1,h.2.elim fun y hy=>⟨y,hy.1,hy.2.zh hg (fun r e=>(hr r e).2)⟩⟩)
   aL ?assign2 ?body2 ?done2 ?stop2
  case assign2=>
   rintro l2 pre ⟨yi,yv⟩ U K hi ⟨j,hj,hyj,hyo⟩ hK;dsimp only at hyo;clear hyj hj;dsimp only[bEnc];rcases hyo.shape with ⟨rfl,_⟩ | ⟨g9,cap9,rfl⟩
   all_goals (
    gi_wp2
    exact hK _ _ ⟨hi.below (Bel.aeX _ _ hi.size) ad,U.heap.size,_,_,_,rfl,hi.size,World.alloc_heap_new U _,rfl⟩ (jZ.below (Bel.alloc _ _)))
  case body2=>
   rintro l2 pre ⟨yi,yv⟩ a' U ⟨hG,Bx,sa,sn,sc,hyv,hBx,hbox,rfl⟩ _;dsimp only at hyv;subst hyv;have e0:U.cell? (Z w.heap.size 0)=some (sq gI 0 n n):=(World.cell?_of_block (w:=V2) (a:=(Z w.heap.size 0)) (hG.same w.heap.size (by omega) (by omega))).trans y0;have e2:U.cell? (Z (w.heap.size+1+1) 0)=some (vi b):=(World.cell?_of_block (w:=V2) (a:=(Z (w.heap.size+1+1) 0)) (hG.same (w.heap.size+1+1) (by omega) (by omega))).trans y2;have e3:U.cell? (Z Bx 0)=some (.slice sa sn sc):=by simp[World.cell?,hbox]
   have O:b<us.size:=by rw[N2.out.sizeI];exact hb
   have e4:U.cell? (Z gI b)=some (ahm (us.getD b Qw) pre):=by simp[World.cell?,hG.box,O]
   have e5:U.frozen? (Z gI b)=false:=by simp[World.frozen?,hG.box]
   have HG:Hid (GX gI b us V2 pre U):=hG;clear hG hbox
   gi_wp2
   exact⟨jZ.setCell _ _,HG.out.put O ad _⟩
  case done2=>
   rintro D2 ys U aK ⟨aY,y,hy,hyo⟩ hG hK2;have az:U.heap[gI]?=some (.cells (us.setIfInBounds b y.2) 74 (0,0)):=by have:=hG.box;rwa [abm _ hy] at this
   have N3:jA U w0.heap.size gI gO n (us.setIfInBounds b y.2) G (xT ins b (atS x no 0)) (xT outs b no):=N2.out.putI hb (fun k hk aQ=>hG.same k hk aQ) az (hyo.low (by omega)) (fun k hk=>(hyo.lt k hk).1);have aH:Hid (jA U w0.heap.size gI gO n (us.setIfInBounds b y.2) G (xT ins b (atS x no 0)) (xT outs b no)):=N3;have e0:U.cell? (Z w.heap.size 0)=some (sq gI 0 n n):=(World.cell?_of_block (w:=V2) (a:=(Z w.heap.size 0)) (hG.same w.heap.size (by omega) (by omega))).trans y0;have e2:U.cell? (Z (w.heap.size+1+1) 0)=some (vi b):=(World.cell?_of_block (w:=V2) (a:=(Z (w.heap.size+1+1) 0)) (hG.same (w.heap.size+1+1) (by omega) (by omega))).trans y2;have e4:=(N3.cellI hb).1;have O:b<us.size:=by rw[N2.out.sizeI];exact hb
   rw[Ja O,if_pos rfl] at e4;obtain⟨nk,HNK⟩:∃z,Hid ((atS x no 0).length=z):=⟨_,rfl⟩;obtain⟨na,nc,hny⟩:∃a c,y.2=.slice a nk c:=by
    rcases hyo.shape with ⟨e,e2⟩ | ⟨g,cap,e⟩
    ·exact⟨none,0,by rw[e,←HNK.out,e2];rfl⟩
    ·exact⟨_,_,by rw[e,HNK.out]⟩
   rw[hny] at e4;have HG:Hid (GX gI b us V2 ys U):=hG;have a9:=HKB.out;have aD:nk≤80:=by rw[←HNK.out];exact ahj _ _ _
   have ah:Hid (U.heap[D2]?=some (.deferred (some []))):=hK2;have am:U.heap[D]?=some (.deferred (some [])):=(hG.same D (by omega) ab).trans KD.out;clear N3 hG az hK2
   gi_wp2
   have ak:(U.putObj D2 (.deferred none)).heap[D]?=some (.deferred (some [])):=(World.putObj_heap_other (by omega)).trans am;refine⟨by simp,.inl ⟨_,_,rfl,run_takeDeferred ah.out,?_⟩⟩;refine⟨by simp,.inl ⟨_,_,rfl,run_takeDeferred ak,?_⟩⟩;refine⟨_,results_tmp rfl _ _ _,us.setIfInBounds b y.2,G,?_,?_,?_,?_⟩
   ·rw[HNO.out,HNK.out,HKB.out]
    rfl
   ·rw[HNO.out];exact(aH.out.zh (grownBy_putObj' _ D2 (.deferred none)) (fun r' e=>by cases e;exact⟨_,ah.out,rfl⟩)).zh (grownBy_putObj' _ D (.deferred none)) (fun r' e=>by cases e;exact⟨_,ak,rfl⟩)
   ·have hU:Below w0.heap.size V2 U:=⟨HG.out.os,HG.out.tape,HG.out.output,HG.out.size,fun k hk=>HG.out.same k (by omega) (by have:=N2.out.lowI;omega)⟩;have bf:=HG.out.size;exact(aG.out.trans hU).trans ((kX (grownBy_putObj' _ D2 (.deferred none)) (by omega) (fun r' e=>by cases e;omega)).trans (kX (grownBy_putObj' _ D (.deferred none)) (by simp;omega) (fun r' e=>by cases e;omega)))
   ·intro k c t z a1 a2 a3 a4;have a5:=Z4.out k c t z a1 a2 a3 a4;have a6:=(HG.out.same k (aI a5).1 a3).trans a5;exact j6 (j6 a6 (grownBy_putObj' _ D2 (.deferred none)) (fun r' e=>by cases e;exact⟨_,ah.out,rfl⟩)) (grownBy_putObj' _ D (.deferred none)) (fun r' e=>by cases e;exact⟨_,ak,rfl⟩)
  case stop2=>
   rintro D2 c pre U aK h;exact h.elim
 case stop=>
  rintro D c pre V hD _ h;exact h.elim
end Go.Proofs.YtkbhbekfniadhaaGreat
