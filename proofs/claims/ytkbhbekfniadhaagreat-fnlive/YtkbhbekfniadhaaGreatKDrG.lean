/- The draw: a program in which something may be amiss. -/
import Derived.Test.YtkbhbekfniadhaaGreatTk0
import Derived.Test.YtkbhbekfniadhaaGreatKDrC
set_option maxRecDepth 100000
set_option maxHeartbeats 32000000
namespace Go.Proofs.YtkbhbekfniadhaaGreat
open Go.ChangeShapes Go.WideShapes Go.ChangeAt Go.RowKit
set_option linter.unusedVariables false
def qD (C:Nat)(w:World)(e:Ending)(w':World):Prop := ∃(v:Value) (F:FnD),e=.returned v∧qt (C+1) w' v F∧0<F.blocks.length∧F.blocks.length≤900∧Below C w w'∧Cur w' C
def Zz (C:Nat)(w:World)(e:Ending)(w':World):Prop := ∃(g n cap:Nat) (vals:Int),e=.returned (.agg #[sq g 0 n cap,vi vals])∧0<n∧n≤900∧kj (C+1) g n cap w'∧Below C w w'∧Cur w' C∧j9 C w w'
theorem kj.read {w w':World}{lo g n cap r:Nat}(h:kj lo g n cap w)(vals:Int)(hg:w.grownBy w' (some r)){c:Array Value}{z:Nat × Nat}(hr:w.heap[r]?=some (.cells c 26 z)):∃F:FnD,qt lo w' (.agg #[sq g 0 n cap,vi vals]) F∧F.blocks.length=n:=by
 obtain⟨bs,rfl,hrow,hins,hphi⟩:=h;have o:∀{e:TypeId},26≠e→qQ w (some r) e:=fun he r' t=>by cases t;exact⟨_,_,_,hr,he⟩
 exact fn_read vals (j8 hrow hg (o (by decide))) (fun i b hb=>(hins i b hb).other hg (o (by decide))) (fun i b hb=>(hphi i b hb).other hg (o (by decide)) (o (by decide)))
theorem kj.other {w w':World}{lo g n cap r:Nat}(h:kj lo g n cap w)(hg:w.grownBy w' (some r)){c:Array Value}{z:Nat × Nat}(hr:w.heap[r]?=some (.cells c 26 z)):kj lo g n cap w':=by
 obtain⟨bs,rfl,hrow,hins,hphi⟩:=h;have o:∀{e:TypeId},26≠e→qQ w (some r) e:=fun he r' t=>by cases t;exact⟨_,_,_,hr,he⟩
 exact⟨bs,rfl,j8 hrow hg (o (by decide)),fun i b hb=>(hins i b hb).other hg (o (by decide)),fun i b hb=>(hphi i b hb).other hg (o (by decide)) (o (by decide))⟩
theorem qY {w W':World}{C lo FB R0 g n cap:Nat}{vals:Int}(hC:C<lo)(hloC:lo=C+1)(hRlo:lo≤R0)(hn0:0<n)(hn9:n≤900)(hP:kj lo g n cap W')(hR:W'.heap[R0]?=some (.cells #[.slice none 0 0,vi 0] 26 (0,0)))(hB:Below C w W')(hc:Cur W' C)(hK:j9 C w W')(hwR:w.heap.size≤R0) :
  Zz C w (.returned (.agg #[sq g 0 n cap,vi vals])) ((W'.setCell (Z R0 0) (sq g 0 n cap)).setCell (Z R0 1) (vi vals)):=by
 have t:=hP.other (Zp W' R0 0 1 (sq g 0 n cap) (vi vals)) hR;have bl:Below lo W' ((W'.setCell (Z R0 0) (sq g 0 n cap)).setCell (Z R0 1) (vi vals)):=((Below.refl lo W').setCell (p:=(Z R0 0)) hRlo _).setCell (p:=(Z R0 1)) hRlo _;refine⟨g,n,cap,vals,rfl,hn0,hn9,by rw[←hloC];exact t,hB.trans (bl.mono (by omega)),hc.below hC bl,fun r c z hr h=>?_⟩;have B:=(aI h).1;rw[Below.heap_setCell _ _ _ r (by show r≠R0;omega),Below.heap_setCell _ _ _ r (by show r≠R0;omega)];exact hK r c z hr h
theorem acY (C:Nat)(w:World)(hc:Cur w C):Calls Tryz.prog 64 #[.pointer (some (Z C 0))] w fun e w'=>Zz C w e w':=by
 have HC:Hid (Cur w C):=hc;have aQ:C<w.heap.size:=hc.lt;clear hc;go_enter Tryz.func64,Tryz.ntmps64
 go_wp2_with fail
 obtain⟨w1,hw1⟩:∃W,w.alloc (.cells #[.slice none 0 0,vi 0] 26)=W:=⟨_,rfl⟩;have b1:Below w.heap.size w w1:=by rw[←hw1];exact Bel.alloc _ _
 have X1:Hid (w1.heap[w.heap.size]?=some (.cells #[.slice none 0 0,vi 0] 26 (0,0))):=by rw[←hw1];exact World.alloc_heap_new _ _
 have aW:Hid (Below w.heap.size w w1):=b1;have aX:Hid (j9 C w w1):=fun r c z _ h=>(b1.block r (aI h).1).trans h
 try rw[hw1]
 clear hw1;obtain⟨R0,hR0⟩:∃x,w.heap.size=x:=⟨_,rfl⟩;rw[hR0] at X1 aQ ⊢;have ac:Hid (w.heap.size=R0):=hR0;refine(Zq C _ (HC.out.later b1)).mono ?_;clear b1 hR0;rintro e w2 ⟨G,g,cap,bs,vals,rfl,hn0,hn9,d2,gs2,bl2,hsz2,hkeep⟩;obtain⟨n,hn⟩:∃n,bs.length=n:=⟨_,rfl⟩;have HN:Hid (bs.length=n):=hn;have X2:Hid (w2.heap[R0]?=some (.cells #[.slice none 0 0,vi 0] 26 (0,0))):=hkeep R0 _ _ aQ X1.out;have aM:Hid (j9 C w w2):=fun r c z hr h=>hkeep r c z hr (aX.out r c z hr h)
 have D2:Hid (DSt w2 C (C+1) G bs):=d2;have G2:Hid (jE w2 C (C+1) G (sq g 0 bs.length cap) bs vals):=gs2;have B2:Hid (Below C w w2):=(aW.out.mono (by have:=ac.out;omega)).trans bl2;rw[hn] at hn0 hn9 ⊢;clear d2 gs2 bl2 hkeep hn hsz2;go_wp2_with fail
 obtain⟨w3,hw3⟩:∃W,w2.alloc (.cells #[sq g 0 n cap,vi vals] 26)=W:=⟨_,rfl⟩;have b3:Below w2.heap.size w2 w3:=by rw[←hw3];exact Bel.alloc _ _
 have x3:w3.heap[w2.heap.size]?=some (.cells #[sq g 0 n cap,vi vals] 26 (0,0)):=by rw[←hw3];exact World.alloc_heap_new _ _
 have ax:Hid (w3.heap[w2.heap.size]?=some (.cells #[sq g 0 n cap,vi vals] 26 (0,0))):=x3;have D3:Hid (DSt w3 C (C+1) G bs):=D2.out.later b3;have G3:Hid (jE w3 C (C+1) G (sq g 0 bs.length cap) bs vals):=G2.out.lo D2.out.hG (ju.later b3);have B3:Hid (Below C w w3):=B2.out.trans (b3.mono (by have:=D2.out.cur.lt;omega));have X3:Hid (w3.heap[R0]?=some (.cells #[.slice none 0 0,vi 0] 26 (0,0))):=(b3.block R0 (aI X2.out).1).trans X2.out;have aN:Hid (j9 C w w3):=fun r c z hr h=>(b3.block r (aI (aM.out r c z hr h)).1).trans (aM.out r c z hr h)
 have aU:R0<w2.heap.size:=(aI X2.out).1;have c0:w3.cell? (Z w2.heap.size 0)=some (sq g 0 n cap):=by simp[World.cell?,x3]
 have c1:w3.cell? (Z w2.heap.size 1)=some (vi vals):=by simp[World.cell?,x3]
 try rw[hw3]
 clear hw3 b3 x3 D2 G2 B2 X2 X1;obtain⟨FB,hFB⟩:∃x,w2.heap.size=x:=⟨_,rfl⟩;rw[hFB] at ax aU c0 c1 ⊢;clear hFB;refine(jH C (n:Int) _ D3.out.cur).mono ?_;rintro e w4 ⟨z,rfl,hz0,hz1,_,hf,hc⟩;have a5:=hz1 (by omega);obtain⟨b,rfl⟩:∃b:Nat,z=(b:Int):=⟨z.toNat,by omega⟩;have ah:b<n:=by omega
 have ag:R0≠C:=by omega
 have aR:FB<w3.heap.size:=(aI ax.out).1;have af:FB≠C:=by omega
 have D4:Hid (DSt w4 C (C+1) G bs):=D3.out.draw hf hc;have G4:Hid (jE w4 C (C+1) G (sq g 0 bs.length cap) bs vals):=G3.out.lo D3.out.hG (ju.fr hf (by omega));have B4:Hid (Below C w w4):=B3.out.trans (hf.yL (Nat.le_of_lt D3.out.cur.lt));have aq:Hid (w4.heap[FB]?=some (.cells #[sq g 0 n cap,vi vals] 26 (0,0))):=(hf.block FB aR af).trans ax.out;have X4:Hid (w4.heap[R0]?=some (.cells #[.slice none 0 0,vi 0] 26 (0,0))):=(hf.block R0 (aI X3.out).1 ag).trans X3.out;have aO:Hid (j9 C w w4):=fun r c z hr h=>(hf.block r (aI (aN.out r c z hr h)).1 (by omega)).trans (aN.out r c z hr h)
 replace c0:w4.cell? (Z FB 0)=some (sq g 0 n cap):=by simp[World.cell?,aq.out]
 replace c1:w4.cell? (Z FB 1)=some (vi vals):=by simp[World.cell?,aq.out]
 obtain⟨x,hx⟩:∃x,bs[b]?=some x:=⟨_,List.getElem?_eq_getElem (by rw[HN.out];exact ah)⟩;obtain⟨g0,cap0,e0,hlog,hgw,hgG,hgc,hgf⟩:=G4.out.at hx;cases e0
 have a4:g≠C:=by omega
 have aw:g<w4.heap.size:=hgw;obtain⟨bb,hix,_,_⟩:=G4.out.ins b x hx;obtain⟨la,lcap,hlv,_,hlc⟩:=Jq hix;obtain⟨nn,hnn⟩:∃k,x.ln=k:=⟨_,rfl⟩;rw[hnn] at hlv hlc;have q1:w4.cell? (Z g (b*6+1))=some (.slice la nn lcap):=by rw[←hlv];exact hgc 1 _ (by omega) rfl
 obtain⟨am,hpx,hpi,_⟩:=G4.out.phi b x hx;obtain⟨pa,pcap,hpv,_,hpc⟩:=Jq hpx;obtain⟨pn,hpn⟩:∃k,x.pn=k:=⟨_,rfl⟩;rw[hpn] at hpv hpc hpx hpi;have a9:(b:Int)<(n:Int):=by omega
 have Q0:Hid (w4.cell? (Z g (b*6))=some (.slice pa pn pcap)):=by rw[←hpv];exact hgc 0 _ (by omega) rfl
 have aj:Hid (0<nn→∃lb,la=some (Z lb 0)):=fun h=>by obtain⟨lb,e,_⟩:=hlc h;exact⟨lb,e⟩
 have aD:Hid (0<pn→∃pb,pa=some (Z pb 0)):=fun h=>by obtain⟨pb,e,_⟩:=hpc h;exact⟨pb,e⟩
 have aK:Hid (∀i,i<pn→∃d av al,am[i*2]?=some (vi d)∧am[i*2+1]?=some av∧xG w4 (C+1) av al):=hpi;have aL:Hid (w4.ownsRow (C+1) 107 2 x.pv pn am):=hpx;clear hf hc hz1 a5 D3 G3 B3 ax X3 hlc hpc hix hgc hgf hpi hpx aR;go_wp2_with fail
 refine(jH C 16 _ D4.out.cur).mono ?_;rintro e w5 ⟨y,rfl,hy0,hy1,_,hf,hc⟩;have aS:FB<w4.heap.size:=(aI aq.out).1;have D5:Hid (DSt w5 C (C+1) G bs):=D4.out.draw hf hc;have G5:Hid (jE w5 C (C+1) G (sq g 0 bs.length cap) bs vals):=G4.out.lo D4.out.hG (ju.fr hf (by omega));have B5:Hid (Below C w w5):=B4.out.trans (hf.yL (Nat.le_of_lt D4.out.cur.lt));have aa:Hid (w5.heap[FB]?=some (.cells #[sq g 0 n cap,vi vals] 26 (0,0))):=(hf.block FB aS af).trans aq.out;have X5:Hid (w5.heap[R0]?=some (.cells #[.slice none 0 0,vi 0] 26 (0,0))):=(hf.block R0 (aI X4.out).1 ag).trans X4.out;have ad:Hid (j9 C w w5):=fun r c z hr h=>(hf.block r (aI (aO.out r c z hr h)).1 (by omega)).trans (aO.out r c z hr h)
 have a6:w5.cell? (Z FB 0)=some (sq g 0 n cap):=by simp[World.cell?,aa.out]
 have a7:w5.cell? (Z FB 1)=some (vi vals):=by simp[World.cell?,aa.out]
 have f51:w5.frozen? (Z FB 1)=false:=by simp[World.frozen?,aa.out]
 have kl:ju (C+1) w4 w5:=ju.fr (lo:=C+1) hf (by omega);have aH:ju (C+1) w4 w5.drew:=kl;have q5:w5.cell? (Z g (b*6))=some (.slice pa pn pcap):=(hf.cell (x:=(Z g (b*6))) aw a4).trans Q0.out;have aC:Hid (∀i,i<pn→∃d av al,am[i*2]?=some (vi d)∧am[i*2+1]?=some av∧xG w5.drew (C+1) av al):=fun i hi=>by
  obtain⟨d,av,al,e1,e2,e3⟩:=aK.out i hi;exact⟨d,av,al,e1,e2,e3.lo aH⟩
 have aE:Hid (w5.drew.ownsRow (C+1) 107 2 x.pv pn am):=jq aL.out aH;have ar:Hid (kj (C+1) g n cap w5):=G5.out.prog HN.out HN.out;have aJ:jE w5.drew C (C+1) G (sq g 0 bs.length cap) bs vals:=⟨G5.out.box,G5.out.row,G5.out.ins,G5.out.phi,G5.out.apL,G5.out.apP⟩;have ai:Hid (jE w5.drew C (C+1) G (sq g 0 bs.length cap) bs vals):=aJ;have aZ:FB<w5.heap.size:=(aI aa.out).1;have aY:C<w5.heap.size:=D5.out.cur.lt;clear hf hc hy1 kl aH D4 G4 B4 aq X4 c0 c1 q1 hgw aw hgG Q0 aK aL aJ aS;have aG:y=0∨y=1∨y=2∨y=3∨y=4∨y=5∨y=6∨y=7∨8≤y:=by omega
 rcases aG with h0 | h1 | h2 | h3 | h4 | h5 | h6 | h7 | h8
 ·subst h0;go_wp2_with fail
  obtain⟨E,hE⟩:∃E,wrap64 (vals-1)=E:=⟨_,rfl⟩;rw[hE];refine(yt C w5.heap.size [-1,0,E,80,81] 5 _ (D5.out.cur.later (Bel.alloc _ _)) (by omega) rfl (by omega) (by omega) ?_).mono ?_
  ·intro j hj;have h5:j=0∨j=1∨j=2∨j=3∨j=4:=by omega
   rcases h5 with rfl|rfl|rfl|rfl|rfl <;> simp
  rintro e w6 ⟨y,rfl,_,hf,hc⟩;have ap:Fr C w5 w6:=(Fr.xW (Bel.alloc _ _)).trans hf;have an:w6.heap[FB]?=some (.cells #[sq g 0 n cap,vi vals] 26 (0,0)):=(ap.block FB aZ af).trans aa.out;have ao:w6.heap[R0]?=some (.cells #[.slice none 0 0,vi 0] 26 (0,0)):=(ap.block R0 (aI X5.out).1 ag).trans X5.out;have aP:jE w6 C (C+1) G (sq g 0 bs.length cap) bs vals:=G5.out.lo D5.out.hG (ju.fr ap (by omega));have f61:w6.frozen? (Z FB 1)=false:=by simp[World.frozen?,an]
  have f60:w6.cell? (Z FB 1)=some (vi vals):=by simp[World.cell?,an]
  have au:Below FB w6 (w6.setCell (Z FB 1) (vi y)):=(Below.refl FB w6).setCell (p:=(Z FB 1)) (Nat.le_refl _) _;have ak:Hid (kj (C+1) g n cap (w6.setCell (Z FB 1) (vi y))):=(aP.prog HN.out HN.out).other (qX w6 FB 1 (vi y)) an;have aT:(w6.setCell (Z FB 1) (vi y)).heap[FB]?=some (.cells #[sq g 0 n cap,vi y] 26 (0,0)):=by
   simp[World.setCell,Array.getElem?_modify,an]
  have aA:Hid ((w6.setCell (Z FB 1) (vi y)).heap[FB]?=some (.cells #[sq g 0 n cap,vi y] 26 (0,0))):=aT;have aF:Hid ((w6.setCell (Z FB 1) (vi y)).heap[R0]?=some (.cells #[.slice none 0 0,vi 0] 26 (0,0))):=(au.block R0 aU).trans ao;have aB:Hid (j9 C w (w6.setCell (Z FB 1) (vi y))):=fun r c z hr h=>(au.block r (by have:=(aI h).1;have:=ac.out;omega)).trans ((ap.block r (aI (ad.out r c z hr h)).1 (by omega)).trans (ad.out r c z hr h))
  have ay:Hid (Below C w (w6.setCell (Z FB 1) (vi y))):=(B5.out.trans (ap.yL (Nat.le_of_lt aY))).trans (au.mono (by omega));have az:Hid (Cur (w6.setCell (Z FB 1) (vi y)) C):=hc.below (by omega) au;have k0:w6.cell? (Z FB 0)=some (sq g 0 n cap):=by simp[World.cell?,an]
  have k1:w6.cell? (Z R0 0)=some (.slice none 0 0):=by simp[World.cell?,ao]
  have k2:w6.cell? (Z R0 1)=some (vi 0):=by simp[World.cell?,ao]
  have k3:w6.frozen? (Z R0 0)=false:=by simp[World.frozen?,ao]
  have k4:w6.frozen? (Z R0 1)=false:=by simp[World.frozen?,ao]
  have a8:R0≠FB:=by omega
  clear hf hc ap an ao aP au aT;go_wp2_with fail
  obtain⟨W',hW'⟩:∃W,w6.setCell (Z FB 1) (vi y)=W:=⟨_,rfl⟩;rw[hW'] at ak aA aF ay az aB;try rw[hW']
  clear hW';have K:=ak.out;have B:=aA.out;have t:=aF.out;have J:=aB.out;have H:=ay.out;have I:=az.out;clear ak aA aF ay az aB;have e0:W'.cell? (Z FB 0)=some (sq g 0 n cap):=by simp[World.cell?,B]
  have e1:W'.cell? (Z FB 1)=some (vi y):=by simp[World.cell?,B]
  have y0:W'.cell? (Z R0 0)=some (.slice none 0 0):=by simp[World.cell?,t]
  have y1:W'.cell? (Z R0 1)=some (vi 0):=by simp[World.cell?,t]
  have z0:W'.frozen? (Z R0 0)=false:=by simp[World.frozen?,t]
  have z1:W'.frozen? (Z R0 1)=false:=by simp[World.frozen?,t]
  have V:Hid (kj (C+1) g n cap W'):=K;have X:Hid (W'.heap[R0]?=some (.cells #[.slice none 0 0,vi 0] 26 (0,0))):=t;have U:Hid (j9 C w W'):=J;have M:Hid (Below C w W'):=H;have O:Hid (Cur W' C):=I;clear K B t H I J;have r0:((W'.setCell (Z R0 0) (sq g 0 n cap)).setCell (Z R0 1) (vi y)).cell? (Z R0 0)=some (sq g 0 n cap):=by
   rw[World.cell?_setCell_other _ _ _ _ (by simp)];exact World.cell?_setCell_same _ _ _ y0
  have r1:((W'.setCell (Z R0 0) (sq g 0 n cap)).setCell (Z R0 1) (vi y)).cell? (Z R0 1)=some (vi y) :=
   World.cell?_setCell_same _ _ _ ((World.cell?_setCell_other _ _ _ _ (by simp)).trans y1)
  refine bodyPost_ret (v:=.agg #[sq g 0 n cap,vi y]) (by simp[results,Tryz.results64,go_sem,r0,r1]) rfl ?_;exact qY (lo:=C+1) (FB:=FB) (by omega) rfl (by omega) hn0 hn9 V.out X.out M.out O.out U.out (Nat.le_of_eq ac.out)
 ·subst h1;go_wp2_with fail
  refine wp_region_any (by kernel_rfl) ?_;refine drawTo C (C+1) FB R0 g n cap b nn 0 0 vals _ G bs x D5.out.drew ai.out HN.out ah hx ⟨_,aa.out⟩ af ⟨_,_,X5.out⟩ ag _ ?_ ?_ ?_ ?_ ?_ _ ?_
  ·rfl
  ·rfl
  ·rfl
  ·rfl
  ·rfl
  rintro f W' ⟨K,hF0,hR0W,hK0,hB0,I⟩;have B:W'.heap[FB]?=some (.cells #[sq g 0 n cap,vi vals] 26 (0,0)):=hF0.trans aa.out;have t:W'.heap[R0]?=some (.cells #[.slice none 0 0,vi 0] 26 (0,0)):=hR0W.trans X5.out;have J:j9 C w W':=fun r c z hr h=>hK0 r c z hr (ad.out r c z hr h)
  have H:Below C w W':=B5.out.trans ⟨hB0.os,hB0.tape,hB0.output,hB0.size,hB0.block⟩;clear hF0 hR0W hB0 hK0;have e0:W'.cell? (Z FB 0)=some (sq g 0 n cap):=by simp[World.cell?,B]
  have e1:W'.cell? (Z FB 1)=some (vi vals):=by simp[World.cell?,B]
  have y0:W'.cell? (Z R0 0)=some (.slice none 0 0):=by simp[World.cell?,t]
  have y1:W'.cell? (Z R0 1)=some (vi 0):=by simp[World.cell?,t]
  have z0:W'.frozen? (Z R0 0)=false:=by simp[World.frozen?,t]
  have z1:W'.frozen? (Z R0 1)=false:=by simp[World.frozen?,t]
  have V:Hid (kj (C+1) g n cap W'):=K;have X:Hid (W'.heap[R0]?=some (.cells #[.slice none 0 0,vi 0] 26 (0,0))):=t;have U:Hid (j9 C w W'):=J;have M:Hid (Below C w W'):=H;have O:Hid (Cur W' C):=I;clear K B t H I J;have ab:List.range' 33 9 = [33,34,35,36,37,38,39,40,41]:=rfl;simp only[aaa,ab,List.foldl_cons,List.foldl_nil,Act.put,Exit.then,Exit.inBlock,sT,sS,sZ]
  go_at_K
  go_wp2_with fail
  have r0:((W'.setCell (Z R0 0) (sq g 0 n cap)).setCell (Z R0 1) (vi vals)).cell? (Z R0 0)=some (sq g 0 n cap):=by
   rw[World.cell?_setCell_other _ _ _ _ (by simp)];exact World.cell?_setCell_same _ _ _ y0
  have r1:((W'.setCell (Z R0 0) (sq g 0 n cap)).setCell (Z R0 1) (vi vals)).cell? (Z R0 1)=some (vi vals) :=
   World.cell?_setCell_same _ _ _ ((World.cell?_setCell_other _ _ _ _ (by simp)).trans y1)
  refine bodyPost_ret (v:=.agg #[sq g 0 n cap,vi vals]) (by simp[results,Tryz.results64,go_sem,r0,r1]) rfl ?_;exact qY (lo:=C+1) (FB:=FB) (by omega) rfl (by omega) hn0 hn9 V.out X.out M.out O.out U.out (Nat.le_of_eq ac.out)
 ·subst h2;go_wp2_with fail
  refine wp_region_any (by kernel_rfl) ?_;refine drawTerm C (C+1) FB R0 g n cap b nn 0 0 vals _ G bs x D5.out.drew ai.out HN.out ah hx ⟨_,aa.out⟩ af ⟨_,_,X5.out⟩ ag _ ?_ ?_ ?_ ?_ ?_ _ ?_
  ·rfl
  ·rfl
  ·rfl
  ·rfl
  ·rfl
  rintro f W' ⟨K,hF0,hR0W,hK0,hB0,I⟩;have B:W'.heap[FB]?=some (.cells #[sq g 0 n cap,vi vals] 26 (0,0)):=hF0.trans aa.out;have t:W'.heap[R0]?=some (.cells #[.slice none 0 0,vi 0] 26 (0,0)):=hR0W.trans X5.out;have J:j9 C w W':=fun r c z hr h=>hK0 r c z hr (ad.out r c z hr h)
  have H:Below C w W':=B5.out.trans ⟨hB0.os,hB0.tape,hB0.output,hB0.size,hB0.block⟩;clear hF0 hR0W hB0 hK0;have e0:W'.cell? (Z FB 0)=some (sq g 0 n cap):=by simp[World.cell?,B]
  have e1:W'.cell? (Z FB 1)=some (vi vals):=by simp[World.cell?,B]
  have y0:W'.cell? (Z R0 0)=some (.slice none 0 0):=by simp[World.cell?,t]
  have y1:W'.cell? (Z R0 1)=some (vi 0):=by simp[World.cell?,t]
  have z0:W'.frozen? (Z R0 0)=false:=by simp[World.frozen?,t]
  have z1:W'.frozen? (Z R0 1)=false:=by simp[World.frozen?,t]
  have V:Hid (kj (C+1) g n cap W'):=K;have X:Hid (W'.heap[R0]?=some (.cells #[.slice none 0 0,vi 0] 26 (0,0))):=t;have U:Hid (j9 C w W'):=J;have M:Hid (Below C w W'):=H;have O:Hid (Cur W' C):=I;clear K B t H I J;have ab:List.range' 44 20 = [44,45,46,47,48,49,50,51,52,53,54,55,56,57,58,59,60,61,62,63]:=rfl;simp only[aaa,ab,List.foldl_cons,List.foldl_nil,Act.put,Exit.then,Exit.inBlock,sT,sS,sZ]
  go_at_K
  go_wp2_with fail
  have r0:((W'.setCell (Z R0 0) (sq g 0 n cap)).setCell (Z R0 1) (vi vals)).cell? (Z R0 0)=some (sq g 0 n cap):=by
   rw[World.cell?_setCell_other _ _ _ _ (by simp)];exact World.cell?_setCell_same _ _ _ y0
  have r1:((W'.setCell (Z R0 0) (sq g 0 n cap)).setCell (Z R0 1) (vi vals)).cell? (Z R0 1)=some (vi vals) :=
   World.cell?_setCell_same _ _ _ ((World.cell?_setCell_other _ _ _ _ (by simp)).trans y1)
  refine bodyPost_ret (v:=.agg #[sq g 0 n cap,vi vals]) (by simp[results,Tryz.results64,go_sem,r0,r1]) rfl ?_;exact qY (lo:=C+1) (FB:=FB) (by omega) rfl (by omega) hn0 hn9 V.out X.out M.out O.out U.out (Nat.le_of_eq ac.out)
 ·subst h3;rcases Nat.eq_zero_or_pos nn with L | L
  ·subst L;have K:=ar.out;have B:=aa.out;have t:=X5.out;have J:=ad.out;have H:=B5.out;have I:=D5.out.cur;have e0:w5.cell? (Z FB 0)=some (sq g 0 n cap):=by simp[World.cell?,B]
   have e1:w5.cell? (Z FB 1)=some (vi vals):=by simp[World.cell?,B]
   have y0:w5.cell? (Z R0 0)=some (.slice none 0 0):=by simp[World.cell?,t]
   have y1:w5.cell? (Z R0 1)=some (vi 0):=by simp[World.cell?,t]
   have z0:w5.frozen? (Z R0 0)=false:=by simp[World.frozen?,t]
   have z1:w5.frozen? (Z R0 1)=false:=by simp[World.frozen?,t]
   have V:Hid (kj (C+1) g n cap w5):=K;have X:Hid (w5.heap[R0]?=some (.cells #[.slice none 0 0,vi 0] 26 (0,0))):=t;have U:Hid (j9 C w w5):=J;have M:Hid (Below C w w5):=H;have O:Hid (Cur w5 C):=I;clear K B t H I J;go_wp2_with fail
   have r0:((w5.setCell (Z R0 0) (sq g 0 n cap)).setCell (Z R0 1) (vi vals)).cell? (Z R0 0)=some (sq g 0 n cap):=by
    rw[World.cell?_setCell_other _ _ _ _ (by simp)];exact World.cell?_setCell_same _ _ _ y0
   have r1:((w5.setCell (Z R0 0) (sq g 0 n cap)).setCell (Z R0 1) (vi vals)).cell? (Z R0 1)=some (vi vals) :=
    World.cell?_setCell_same _ _ _ ((World.cell?_setCell_other _ _ _ _ (by simp)).trans y1)
   refine bodyPost_ret (v:=.agg #[sq g 0 n cap,vi vals]) (by simp[results,Tryz.results64,go_sem,r0,r1]) rfl ?_;exact qY (lo:=C+1) (FB:=FB) (by omega) rfl (by omega) hn0 hn9 V.out X.out M.out O.out U.out (Nat.le_of_eq ac.out)
  obtain⟨lb,hlb⟩:=aj.out L;subst hlb;go_wp2_with fail
  refine wp_region_any (by kernel_rfl) ?_;refine drawA C (C+1) FB R0 g n cap b nn lb lcap vals _ G bs x D5.out.drew ai.out HN.out ah hx ⟨_,aa.out⟩ af ⟨_,_,X5.out⟩ ag hlv hnn L _ ?_ ?_ ?_ ?_ ?_ _ ?_
  ·rfl
  ·rfl
  ·rfl
  ·rfl
  ·rfl
  rintro f W' ⟨K,hF0,hR0W,hK0,hB0,I⟩;have B:W'.heap[FB]?=some (.cells #[sq g 0 n cap,vi vals] 26 (0,0)):=hF0.trans aa.out;have t:W'.heap[R0]?=some (.cells #[.slice none 0 0,vi 0] 26 (0,0)):=hR0W.trans X5.out;have J:j9 C w W':=fun r c z hr h=>hK0 r c z hr (ad.out r c z hr h)
  have H:Below C w W':=B5.out.trans ⟨hB0.os,hB0.tape,hB0.output,hB0.size,hB0.block⟩;clear hF0 hR0W hB0 hK0;have e0:W'.cell? (Z FB 0)=some (sq g 0 n cap):=by simp[World.cell?,B]
  have e1:W'.cell? (Z FB 1)=some (vi vals):=by simp[World.cell?,B]
  have y0:W'.cell? (Z R0 0)=some (.slice none 0 0):=by simp[World.cell?,t]
  have y1:W'.cell? (Z R0 1)=some (vi 0):=by simp[World.cell?,t]
  have z0:W'.frozen? (Z R0 0)=false:=by simp[World.frozen?,t]
  have z1:W'.frozen? (Z R0 1)=false:=by simp[World.frozen?,t]
  have V:Hid (kj (C+1) g n cap W'):=K;have X:Hid (W'.heap[R0]?=some (.cells #[.slice none 0 0,vi 0] 26 (0,0))):=t;have U:Hid (j9 C w W'):=J;have M:Hid (Below C w W'):=H;have O:Hid (Cur W' C):=I;clear K B t H I J;have ab:List.range' 68 16 = [68,69,70,71,72,73,74,75,76,77,78,79,80,81,82,83]:=rfl;simp only[aaa,ab,List.foldl_cons,List.foldl_nil,Act.put,Exit.then,Exit.inBlock,sT,sS,sZ]
  go_at_K
  go_wp2_with fail
  have r0:((W'.setCell (Z R0 0) (sq g 0 n cap)).setCell (Z R0 1) (vi vals)).cell? (Z R0 0)=some (sq g 0 n cap):=by
   rw[World.cell?_setCell_other _ _ _ _ (by simp)];exact World.cell?_setCell_same _ _ _ y0
  have r1:((W'.setCell (Z R0 0) (sq g 0 n cap)).setCell (Z R0 1) (vi vals)).cell? (Z R0 1)=some (vi vals) :=
   World.cell?_setCell_same _ _ _ ((World.cell?_setCell_other _ _ _ _ (by simp)).trans y1)
  refine bodyPost_ret (v:=.agg #[sq g 0 n cap,vi vals]) (by simp[results,Tryz.results64,go_sem,r0,r1]) rfl ?_;exact qY (lo:=C+1) (FB:=FB) (by omega) rfl (by omega) hn0 hn9 V.out X.out M.out O.out U.out (Nat.le_of_eq ac.out)
 ·subst h4;rcases Nat.eq_zero_or_pos nn with L | L
  ·subst L;have K:=ar.out;have B:=aa.out;have t:=X5.out;have J:=ad.out;have H:=B5.out;have I:=D5.out.cur;have e0:w5.cell? (Z FB 0)=some (sq g 0 n cap):=by simp[World.cell?,B]
   have e1:w5.cell? (Z FB 1)=some (vi vals):=by simp[World.cell?,B]
   have y0:w5.cell? (Z R0 0)=some (.slice none 0 0):=by simp[World.cell?,t]
   have y1:w5.cell? (Z R0 1)=some (vi 0):=by simp[World.cell?,t]
   have z0:w5.frozen? (Z R0 0)=false:=by simp[World.frozen?,t]
   have z1:w5.frozen? (Z R0 1)=false:=by simp[World.frozen?,t]
   have V:Hid (kj (C+1) g n cap w5):=K;have X:Hid (w5.heap[R0]?=some (.cells #[.slice none 0 0,vi 0] 26 (0,0))):=t;have U:Hid (j9 C w w5):=J;have M:Hid (Below C w w5):=H;have O:Hid (Cur w5 C):=I;clear K B t H I J;go_wp2_with fail
   have r0:((w5.setCell (Z R0 0) (sq g 0 n cap)).setCell (Z R0 1) (vi vals)).cell? (Z R0 0)=some (sq g 0 n cap):=by
    rw[World.cell?_setCell_other _ _ _ _ (by simp)];exact World.cell?_setCell_same _ _ _ y0
   have r1:((w5.setCell (Z R0 0) (sq g 0 n cap)).setCell (Z R0 1) (vi vals)).cell? (Z R0 1)=some (vi vals) :=
    World.cell?_setCell_same _ _ _ ((World.cell?_setCell_other _ _ _ _ (by simp)).trans y1)
   refine bodyPost_ret (v:=.agg #[sq g 0 n cap,vi vals]) (by simp[results,Tryz.results64,go_sem,r0,r1]) rfl ?_;exact qY (lo:=C+1) (FB:=FB) (by omega) rfl (by omega) hn0 hn9 V.out X.out M.out O.out U.out (Nat.le_of_eq ac.out)
  obtain⟨lb,hlb⟩:=aj.out L;subst hlb;go_wp2_with fail
  refine wp_region_any (by kernel_rfl) ?_;refine drawD C (C+1) FB R0 g n cap b nn lb lcap vals _ G bs x D5.out.drew ai.out HN.out ah hx ⟨_,aa.out⟩ af ⟨_,_,X5.out⟩ ag hlv hnn L _ ?_ ?_ ?_ ?_ ?_ _ ?_
  ·rfl
  ·rfl
  ·rfl
  ·rfl
  ·rfl
  rintro f W' ⟨K,hF0,hR0W,hK0,hB0,I⟩;have B:W'.heap[FB]?=some (.cells #[sq g 0 n cap,vi vals] 26 (0,0)):=hF0.trans aa.out;have t:W'.heap[R0]?=some (.cells #[.slice none 0 0,vi 0] 26 (0,0)):=hR0W.trans X5.out;have J:j9 C w W':=fun r c z hr h=>hK0 r c z hr (ad.out r c z hr h)
  have H:Below C w W':=B5.out.trans ⟨hB0.os,hB0.tape,hB0.output,hB0.size,hB0.block⟩;clear hF0 hR0W hB0 hK0;have e0:W'.cell? (Z FB 0)=some (sq g 0 n cap):=by simp[World.cell?,B]
  have e1:W'.cell? (Z FB 1)=some (vi vals):=by simp[World.cell?,B]
  have y0:W'.cell? (Z R0 0)=some (.slice none 0 0):=by simp[World.cell?,t]
  have y1:W'.cell? (Z R0 1)=some (vi 0):=by simp[World.cell?,t]
  have z0:W'.frozen? (Z R0 0)=false:=by simp[World.frozen?,t]
  have z1:W'.frozen? (Z R0 1)=false:=by simp[World.frozen?,t]
  have V:Hid (kj (C+1) g n cap W'):=K;have X:Hid (W'.heap[R0]?=some (.cells #[.slice none 0 0,vi 0] 26 (0,0))):=t;have U:Hid (j9 C w W'):=J;have M:Hid (Below C w W'):=H;have O:Hid (Cur W' C):=I;clear K B t H I J;have ab:List.range' 88 17 = [88,89,90,91,92,93,94,95,96,97,98,99,100,101,102,103,104]:=rfl;simp only[aaa,ab,List.foldl_cons,List.foldl_nil,Act.put,Exit.then,Exit.inBlock,sT,sS,sZ]
  go_at_K
  go_wp2_with fail
  have r0:((W'.setCell (Z R0 0) (sq g 0 n cap)).setCell (Z R0 1) (vi vals)).cell? (Z R0 0)=some (sq g 0 n cap):=by
   rw[World.cell?_setCell_other _ _ _ _ (by simp)];exact World.cell?_setCell_same _ _ _ y0
  have r1:((W'.setCell (Z R0 0) (sq g 0 n cap)).setCell (Z R0 1) (vi vals)).cell? (Z R0 1)=some (vi vals) :=
   World.cell?_setCell_same _ _ _ ((World.cell?_setCell_other _ _ _ _ (by simp)).trans y1)
  refine bodyPost_ret (v:=.agg #[sq g 0 n cap,vi vals]) (by simp[results,Tryz.results64,go_sem,r0,r1]) rfl ?_;exact qY (lo:=C+1) (FB:=FB) (by omega) rfl (by omega) hn0 hn9 V.out X.out M.out O.out U.out (Nat.le_of_eq ac.out)
 ·subst h5;rcases Nat.eq_zero_or_pos nn with L | L
  ·subst L;have K:=ar.out;have B:=aa.out;have t:=X5.out;have J:=ad.out;have H:=B5.out;have I:=D5.out.cur;have e0:w5.cell? (Z FB 0)=some (sq g 0 n cap):=by simp[World.cell?,B]
   have e1:w5.cell? (Z FB 1)=some (vi vals):=by simp[World.cell?,B]
   have y0:w5.cell? (Z R0 0)=some (.slice none 0 0):=by simp[World.cell?,t]
   have y1:w5.cell? (Z R0 1)=some (vi 0):=by simp[World.cell?,t]
   have z0:w5.frozen? (Z R0 0)=false:=by simp[World.frozen?,t]
   have z1:w5.frozen? (Z R0 1)=false:=by simp[World.frozen?,t]
   have V:Hid (kj (C+1) g n cap w5):=K;have X:Hid (w5.heap[R0]?=some (.cells #[.slice none 0 0,vi 0] 26 (0,0))):=t;have U:Hid (j9 C w w5):=J;have M:Hid (Below C w w5):=H;have O:Hid (Cur w5 C):=I;clear K B t H I J;go_wp2_with fail
   have r0:((w5.setCell (Z R0 0) (sq g 0 n cap)).setCell (Z R0 1) (vi vals)).cell? (Z R0 0)=some (sq g 0 n cap):=by
    rw[World.cell?_setCell_other _ _ _ _ (by simp)];exact World.cell?_setCell_same _ _ _ y0
   have r1:((w5.setCell (Z R0 0) (sq g 0 n cap)).setCell (Z R0 1) (vi vals)).cell? (Z R0 1)=some (vi vals) :=
    World.cell?_setCell_same _ _ _ ((World.cell?_setCell_other _ _ _ _ (by simp)).trans y1)
   refine bodyPost_ret (v:=.agg #[sq g 0 n cap,vi vals]) (by simp[results,Tryz.results64,go_sem,r0,r1]) rfl ?_;exact qY (lo:=C+1) (FB:=FB) (by omega) rfl (by omega) hn0 hn9 V.out X.out M.out O.out U.out (Nat.le_of_eq ac.out)
  obtain⟨lb,hlb⟩:=aj.out L;subst hlb;go_wp2_with fail
  refine wp_region_any (by kernel_rfl) ?_;refine drawOp C (C+1) FB R0 g n cap b nn lb lcap vals _ G bs x D5.out.drew ai.out HN.out ah hx ⟨_,aa.out⟩ af ⟨_,_,X5.out⟩ ag hlv hnn L _ ?_ ?_ ?_ ?_ ?_ _ ?_
  ·rfl
  ·rfl
  ·rfl
  ·rfl
  ·rfl
  rintro f W' ⟨K,hF0,hR0W,hK0,hB0,I⟩;have B:W'.heap[FB]?=some (.cells #[sq g 0 n cap,vi vals] 26 (0,0)):=hF0.trans aa.out;have t:W'.heap[R0]?=some (.cells #[.slice none 0 0,vi 0] 26 (0,0)):=hR0W.trans X5.out;have J:j9 C w W':=fun r c z hr h=>hK0 r c z hr (ad.out r c z hr h)
  have H:Below C w W':=B5.out.trans ⟨hB0.os,hB0.tape,hB0.output,hB0.size,hB0.block⟩;clear hF0 hR0W hB0 hK0;have e0:W'.cell? (Z FB 0)=some (sq g 0 n cap):=by simp[World.cell?,B]
  have e1:W'.cell? (Z FB 1)=some (vi vals):=by simp[World.cell?,B]
  have y0:W'.cell? (Z R0 0)=some (.slice none 0 0):=by simp[World.cell?,t]
  have y1:W'.cell? (Z R0 1)=some (vi 0):=by simp[World.cell?,t]
  have z0:W'.frozen? (Z R0 0)=false:=by simp[World.frozen?,t]
  have z1:W'.frozen? (Z R0 1)=false:=by simp[World.frozen?,t]
  have V:Hid (kj (C+1) g n cap W'):=K;have X:Hid (W'.heap[R0]?=some (.cells #[.slice none 0 0,vi 0] 26 (0,0))):=t;have U:Hid (j9 C w W'):=J;have M:Hid (Below C w W'):=H;have O:Hid (Cur W' C):=I;clear K B t H I J;have ab:List.range' 109 14 = [109,110,111,112,113,114,115,116,117,118,119,120,121,122]:=rfl;simp only[aaa,ab,List.foldl_cons,List.foldl_nil,Act.put,Exit.then,Exit.inBlock,sT,sS,sZ]
  go_at_K
  go_wp2_with fail
  have r0:((W'.setCell (Z R0 0) (sq g 0 n cap)).setCell (Z R0 1) (vi vals)).cell? (Z R0 0)=some (sq g 0 n cap):=by
   rw[World.cell?_setCell_other _ _ _ _ (by simp)];exact World.cell?_setCell_same _ _ _ y0
  have r1:((W'.setCell (Z R0 0) (sq g 0 n cap)).setCell (Z R0 1) (vi vals)).cell? (Z R0 1)=some (vi vals) :=
   World.cell?_setCell_same _ _ _ ((World.cell?_setCell_other _ _ _ _ (by simp)).trans y1)
  refine bodyPost_ret (v:=.agg #[sq g 0 n cap,vi vals]) (by simp[results,Tryz.results64,go_sem,r0,r1]) rfl ?_;exact qY (lo:=C+1) (FB:=FB) (by omega) rfl (by omega) hn0 hn9 V.out X.out M.out O.out U.out (Nat.le_of_eq ac.out)
 ·subst h6;rcases Nat.eq_zero_or_pos pn with ae | ae
  ·subst ae;have K:=ar.out;have B:=aa.out;have t:=X5.out;have J:=ad.out;have H:=B5.out;have I:=D5.out.cur;have e0:w5.cell? (Z FB 0)=some (sq g 0 n cap):=by simp[World.cell?,B]
   have e1:w5.cell? (Z FB 1)=some (vi vals):=by simp[World.cell?,B]
   have y0:w5.cell? (Z R0 0)=some (.slice none 0 0):=by simp[World.cell?,t]
   have y1:w5.cell? (Z R0 1)=some (vi 0):=by simp[World.cell?,t]
   have z0:w5.frozen? (Z R0 0)=false:=by simp[World.frozen?,t]
   have z1:w5.frozen? (Z R0 1)=false:=by simp[World.frozen?,t]
   have V:Hid (kj (C+1) g n cap w5):=K;have X:Hid (w5.heap[R0]?=some (.cells #[.slice none 0 0,vi 0] 26 (0,0))):=t;have U:Hid (j9 C w w5):=J;have M:Hid (Below C w w5):=H;have O:Hid (Cur w5 C):=I;clear K B t H I J;go_wp2_with fail
   have r0:((w5.setCell (Z R0 0) (sq g 0 n cap)).setCell (Z R0 1) (vi vals)).cell? (Z R0 0)=some (sq g 0 n cap):=by
    rw[World.cell?_setCell_other _ _ _ _ (by simp)];exact World.cell?_setCell_same _ _ _ y0
   have r1:((w5.setCell (Z R0 0) (sq g 0 n cap)).setCell (Z R0 1) (vi vals)).cell? (Z R0 1)=some (vi vals) :=
    World.cell?_setCell_same _ _ _ ((World.cell?_setCell_other _ _ _ _ (by simp)).trans y1)
   refine bodyPost_ret (v:=.agg #[sq g 0 n cap,vi vals]) (by simp[results,Tryz.results64,go_sem,r0,r1]) rfl ?_;exact qY (lo:=C+1) (FB:=FB) (by omega) rfl (by omega) hn0 hn9 V.out X.out M.out O.out U.out (Nat.le_of_eq ac.out)
  obtain⟨pb,hpb⟩:=aD.out ae;subst hpb;obtain⟨d0,av,al,hd0,hav,hal⟩:=aC.out 0 ae;have aV:=aE.out;rw[hpv] at aV;go_wp2_with fail
  refine wp_region_any (by kernel_rfl) ?_;refine drawArms C (C+1) FB R0 g n cap b nn pb pn pcap av vals _ G bs x D5.out.drew ai.out HN.out ah hx ⟨_,aa.out⟩ af ⟨_,_,X5.out⟩ ag al hpv hpn ae am aV hav hal _ ?_ ?_ ?_ ?_ ?_ _ ?_
  ·rfl
  ·rfl
  ·rfl
  ·rfl
  ·rfl
  rintro f W' ⟨K,hF0,hR0W,hK0,hB0,I⟩;have B:W'.heap[FB]?=some (.cells #[sq g 0 n cap,vi vals] 26 (0,0)):=hF0.trans aa.out;have t:W'.heap[R0]?=some (.cells #[.slice none 0 0,vi 0] 26 (0,0)):=hR0W.trans X5.out;have J:j9 C w W':=fun r c z hr h=>hK0 r c z hr (ad.out r c z hr h)
  have H:Below C w W':=B5.out.trans ⟨hB0.os,hB0.tape,hB0.output,hB0.size,hB0.block⟩;clear hF0 hR0W hB0 hK0;have e0:W'.cell? (Z FB 0)=some (sq g 0 n cap):=by simp[World.cell?,B]
  have e1:W'.cell? (Z FB 1)=some (vi vals):=by simp[World.cell?,B]
  have y0:W'.cell? (Z R0 0)=some (.slice none 0 0):=by simp[World.cell?,t]
  have y1:W'.cell? (Z R0 1)=some (vi 0):=by simp[World.cell?,t]
  have z0:W'.frozen? (Z R0 0)=false:=by simp[World.frozen?,t]
  have z1:W'.frozen? (Z R0 1)=false:=by simp[World.frozen?,t]
  have V:Hid (kj (C+1) g n cap W'):=K;have X:Hid (W'.heap[R0]?=some (.cells #[.slice none 0 0,vi 0] 26 (0,0))):=t;have U:Hid (j9 C w W'):=J;have M:Hid (Below C w W'):=H;have O:Hid (Cur W' C):=I;clear K B t H I J;have ab:List.range' 133 18 = [133,134,135,136,137,138,139,140,141,142,143,144,145,146,147,148,149,150]:=rfl;simp only[aaa,ab,List.foldl_cons,List.foldl_nil,Act.put,Exit.then,Exit.inBlock,sT,sS,sZ]
  go_at_K
  go_wp2_with fail
  have r0:((W'.setCell (Z R0 0) (sq g 0 n cap)).setCell (Z R0 1) (vi vals)).cell? (Z R0 0)=some (sq g 0 n cap):=by
   rw[World.cell?_setCell_other _ _ _ _ (by simp)];exact World.cell?_setCell_same _ _ _ y0
  have r1:((W'.setCell (Z R0 0) (sq g 0 n cap)).setCell (Z R0 1) (vi vals)).cell? (Z R0 1)=some (vi vals) :=
   World.cell?_setCell_same _ _ _ ((World.cell?_setCell_other _ _ _ _ (by simp)).trans y1)
  refine bodyPost_ret (v:=.agg #[sq g 0 n cap,vi vals]) (by simp[results,Tryz.results64,go_sem,r0,r1]) rfl ?_;exact qY (lo:=C+1) (FB:=FB) (by omega) rfl (by omega) hn0 hn9 V.out X.out M.out O.out U.out (Nat.le_of_eq ac.out)
 ·subst h7;go_wp2_with fail
  refine Yd 19 (fun W=>W.cell? (Z FB 0)=some (sq g 0 n cap)∧W.cell? (Z FB 1)=some (vi vals)∧W.cell? (Z g (b*6))=some (.slice pa pn pcap)) (by kernel_rfl) ?_;refine drawPhi C (C+1) FB R0 g n cap b pn pcap pa vals _ G bs x D5.out.drew ai.out HN.out ah hx ⟨_,aa.out⟩ af ⟨_,_,X5.out⟩ ag hpv hpn _ ?_ ?_ ?_ ?_ _ (fun _ _ _ h=>h.elim) ?_
  ·rfl
  ·rfl
  ·rfl
  ·rfl
  rintro z8 z9 Ph v' W' ⟨K,hF0,hR0W,hK0,hB0,I⟩;have B:W'.heap[FB]?=some (.cells #[sq g 0 n cap,vi vals] 26 (0,0)):=hF0.trans aa.out;have t:W'.heap[R0]?=some (.cells #[.slice none 0 0,vi 0] 26 (0,0)):=hR0W.trans X5.out;have J:j9 C w W':=fun r c z hr h=>hK0 r c z hr (ad.out r c z hr h)
  have H:Below C w W':=B5.out.trans ⟨hB0.os,hB0.tape,hB0.output,hB0.size,hB0.block⟩;clear hF0 hR0W hB0 hK0;have e0:W'.cell? (Z FB 0)=some (sq g 0 n cap):=by simp[World.cell?,B]
  have e1:W'.cell? (Z FB 1)=some (vi vals):=by simp[World.cell?,B]
  have y0:W'.cell? (Z R0 0)=some (.slice none 0 0):=by simp[World.cell?,t]
  have y1:W'.cell? (Z R0 1)=some (vi 0):=by simp[World.cell?,t]
  have z0:W'.frozen? (Z R0 0)=false:=by simp[World.frozen?,t]
  have z1:W'.frozen? (Z R0 1)=false:=by simp[World.frozen?,t]
  have V:Hid (kj (C+1) g n cap W'):=K;have X:Hid (W'.heap[R0]?=some (.cells #[.slice none 0 0,vi 0] 26 (0,0))):=t;have U:Hid (j9 C w W'):=J;have M:Hid (Below C w W'):=H;have O:Hid (Cur W' C):=I;clear K B t H I J;dsimp only[onlyN];simp only[Act.put,Exit.then,Exit.inBlock,sT,sS,sZ]
  go_at_K
  go_wp2_with fail
  have r0:((W'.setCell (Z R0 0) (sq g 0 n cap)).setCell (Z R0 1) (vi vals)).cell? (Z R0 0)=some (sq g 0 n cap):=by
   rw[World.cell?_setCell_other _ _ _ _ (by simp)];exact World.cell?_setCell_same _ _ _ y0
  have r1:((W'.setCell (Z R0 0) (sq g 0 n cap)).setCell (Z R0 1) (vi vals)).cell? (Z R0 1)=some (vi vals) :=
   World.cell?_setCell_same _ _ _ ((World.cell?_setCell_other _ _ _ _ (by simp)).trans y1)
  refine bodyPost_ret (v:=.agg #[sq g 0 n cap,vi vals]) (by simp[results,Tryz.results64,go_sem,r0,r1]) rfl ?_;exact qY (lo:=C+1) (FB:=FB) (by omega) rfl (by omega) hn0 hn9 V.out X.out M.out O.out U.out (Nat.le_of_eq ac.out)
 ·have K:=ar.out;have B:=aa.out;have t:=X5.out;have J:=ad.out;have H:=B5.out;have I:=D5.out.cur;have e0:w5.cell? (Z FB 0)=some (sq g 0 n cap):=by simp[World.cell?,B]
  have e1:w5.cell? (Z FB 1)=some (vi vals):=by simp[World.cell?,B]
  have y0:w5.cell? (Z R0 0)=some (.slice none 0 0):=by simp[World.cell?,t]
  have y1:w5.cell? (Z R0 1)=some (vi 0):=by simp[World.cell?,t]
  have z0:w5.frozen? (Z R0 0)=false:=by simp[World.frozen?,t]
  have z1:w5.frozen? (Z R0 1)=false:=by simp[World.frozen?,t]
  have V:Hid (kj (C+1) g n cap w5):=K;have X:Hid (w5.heap[R0]?=some (.cells #[.slice none 0 0,vi 0] 26 (0,0))):=t;have U:Hid (j9 C w w5):=J;have M:Hid (Below C w w5):=H;have O:Hid (Cur w5 C):=I;clear K B t H I J;go_wp2_with fail
  have r0:((w5.setCell (Z R0 0) (sq g 0 n cap)).setCell (Z R0 1) (vi vals)).cell? (Z R0 0)=some (sq g 0 n cap):=by
   rw[World.cell?_setCell_other _ _ _ _ (by simp)];exact World.cell?_setCell_same _ _ _ y0
  have r1:((w5.setCell (Z R0 0) (sq g 0 n cap)).setCell (Z R0 1) (vi vals)).cell? (Z R0 1)=some (vi vals) :=
   World.cell?_setCell_same _ _ _ ((World.cell?_setCell_other _ _ _ _ (by simp)).trans y1)
  refine bodyPost_ret (v:=.agg #[sq g 0 n cap,vi vals]) (by simp[results,Tryz.results64,go_sem,r0,r1]) rfl ?_;exact qY (lo:=C+1) (FB:=FB) (by omega) rfl (by omega) hn0 hn9 V.out X.out M.out O.out U.out (Nat.le_of_eq ac.out)
end Go.Proofs.YtkbhbekfniadhaaGreat
