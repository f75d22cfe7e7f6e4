/- Small functions of the laws. The draw: a program in which something may be amiss. The draw: a program and a block. The draws of the laws over the graph. The drawn programs of the laws. -/
import Derived.Test.YtfnilamkapabkaaGreatDoorKSeq
import Derived.WalkKit
import Derived.Test.YtfnilamkapabkaaGreatDoorKDrC
namespace Go.Proofs.YtfnilamkapabkaaGreatDoor
open Go.ChangeShapes Go.WideShapes Go.ChangeAt Go.RowKit
set_option linter.unusedVariables false
theorem big_any (a:Option Addr)(len cap:Nat)(w:World):Calls Tryz.prog 8 #[.slice a len cap] w fun e w'=>∃b:Bool,e = .returned (.bool b)∧w'=w:=by
 go_enter Tryz.func8,Tryz.ntmps8
 go_wp2
 go_ret
 exact⟨_,rfl,rfl⟩
def GivesDrawn (C:Nat)(w:World)(e:Ending)(w':World):Prop := ∃(v:Value) (F:FnD),e = .returned v∧FnAtLo (C+1) w' v F∧0<F.blocks.length∧F.blocks.length≤900∧Below C w w'∧Cur w' C
theorem ProgOk.read {w w':World}{lo g n cap r:Nat}(h:ProgOk lo g n cap w)(vals:Int)(hg:w.grownBy w' (some r)){c:Array Value}{z:Nat × Nat}(hr:w.heap[r]? = some (.cells c 26 z)):∃F:FnD,FnAtLo lo w' (.agg #[.slice (some ⟨g,0,none⟩) n cap,.int .i64 vals]) F∧F.blocks.length=n:=by
 obtain⟨bs,rfl,hrow,hins,hphi⟩:=h
 have o:∀{e:TypeId},26≠e→Other w (some r) e:=fun he r' hr'=>by cases hr';exact⟨_,_,_,hr,he⟩
 exact fn_read vals (ownsRow_other hrow hg (o (by decide))) (fun i b hb=>(hins i b hb).other hg (o (by decide))) (fun i b hb=>(hphi i b hb).other hg (o (by decide)) (o (by decide)))
theorem ProgOk.other {w w':World}{lo g n cap r:Nat}(h:ProgOk lo g n cap w)(hg:w.grownBy w' (some r)){c:Array Value}{z:Nat × Nat}(hr:w.heap[r]? = some (.cells c 26 z)):ProgOk lo g n cap w':=by
 obtain⟨bs,rfl,hrow,hins,hphi⟩:=h
 have o:∀{e:TypeId},26≠e→Other w (some r) e:=fun he r' hr'=>by cases hr';exact⟨_,_,_,hr,he⟩
 exact⟨bs,rfl,ownsRow_other hrow hg (o (by decide)),fun i b hb=>(hins i b hb).other hg (o (by decide)),fun i b hb=>(hphi i b hb).other hg (o (by decide)) (o (by decide))⟩
theorem draw_end {w W':World}{C lo FB R0 g n cap:Nat}{vals:Int}(hC:C<lo)(hRlo:lo≤R0)(hn0:0<n)(hn9:n≤900)(hP:ProgOk lo g n cap W')(hR:W'.heap[R0]? = some (.cells #[.slice none 0 0,.int .i64 0] 26 (0,0)))(hB:Below C w W')(hc:Cur W' C) :
  GivesDrawn C w (.returned (.agg #[.slice (some ⟨g,0,none⟩) n cap,.int .i64 vals])) ((W'.setCell ⟨R0,0,none⟩ (.slice (some ⟨g,0,none⟩) n cap)).setCell ⟨R0,1,none⟩ (.int .i64 vals)):=by
 obtain⟨F,hF,hl⟩:=hP.read vals (grown_two W' R0 0 1 (.slice (some ⟨g,0,none⟩) n cap) (.int .i64 vals)) hR
 have bl:Below lo W' ((W'.setCell ⟨R0,0,none⟩ (.slice (some ⟨g,0,none⟩) n cap)).setCell ⟨R0,1,none⟩ (.int .i64 vals)):=((Below.refl lo W').setCell (p:=⟨R0,0,none⟩) hRlo _).setCell (p:=⟨R0,1,none⟩) hRlo _
 exact⟨_,F,rfl,FnAtLo.low (by omega) hF,by omega,by omega,hB.trans (bl.mono (by omega)),hc.below hC bl⟩
set_option maxRecDepth 100000 in
set_option maxHeartbeats 32000000 in
theorem draw_any (C:Nat)(w:World)(hc:Cur w C):Calls Tryz.prog 38 #[.pointer (some ⟨C,0,none⟩)] w fun e w'=>GivesDrawn C w e w':=by
 have HC:Hid (Cur w C):=hc
 have hCw:C<w.heap.size:=hc.lt
 clear hc
 go_enter Tryz.func38,Tryz.ntmps38
 go_wp2_with fail
 obtain⟨w1,hw1⟩:∃W,w.alloc (.cells #[.slice none 0 0,.int .i64 0] 26)=W:=⟨_,rfl⟩
 have b1:Below w.heap.size w w1:=by rw[←hw1];exact Bel.alloc _ _
 have X1:Hid (w1.heap[w.heap.size]? = some (.cells #[.slice none 0 0,.int .i64 0] 26 (0,0))):=by rw[←hw1];exact World.alloc_heap_new _ _
 have HB1:Hid (Below w.heap.size w w1):=b1
 try rw[hw1]
 clear hw1
 obtain⟨R0,hR0⟩:∃x,w.heap.size=x:=⟨_,rfl⟩
 rw[hR0] at X1 hCw ⊢
 have HR0:Hid (w.heap.size=R0):=hR0
 refine(right_any C _ (HC.out.later b1)).mono ?_
 clear b1 hR0
 rintro e w2 ⟨G,g,cap,bs,vals,rfl,hn0,hn9,d2,gs2,bl2,hsz2,hkeep⟩
 obtain⟨n,hn⟩:∃n,bs.length=n:=⟨_,rfl⟩
 have HN:Hid (bs.length=n):=hn
 have X2:Hid (w2.heap[R0]? = some (.cells #[.slice none 0 0,.int .i64 0] 26 (0,0))):=hkeep R0 _ _ hCw X1.out
 have D2:Hid (DSt w2 C (C+1) G bs):=d2
 have G2:Hid (GenSt w2 C (C+1) G (.slice (some ⟨g,0,none⟩) bs.length cap) bs vals):=gs2
 have B2:Hid (Below C w w2):=(HB1.out.mono (by have:=HR0.out;omega)).trans bl2
 rw[hn] at hn0 hn9 ⊢
 clear d2 gs2 bl2 hkeep hn hsz2
 go_wp2_with fail
 obtain⟨w3,hw3⟩:∃W,w2.alloc (.cells #[.slice (some ⟨g,0,none⟩) n cap,.int .i64 vals] 26)=W:=⟨_,rfl⟩
 have b3:Below w2.heap.size w2 w3:=by rw[←hw3];exact Bel.alloc _ _
 have x3:w3.heap[w2.heap.size]? = some (.cells #[.slice (some ⟨g,0,none⟩) n cap,.int .i64 vals] 26 (0,0)):=by rw[←hw3];exact World.alloc_heap_new _ _
 have FB3:Hid (w3.heap[w2.heap.size]? = some (.cells #[.slice (some ⟨g,0,none⟩) n cap,.int .i64 vals] 26 (0,0))):=x3
 have D3:Hid (DSt w3 C (C+1) G bs):=D2.out.later b3
 have G3:Hid (GenSt w3 C (C+1) G (.slice (some ⟨g,0,none⟩) bs.length cap) bs vals):=G2.out.lo D2.out.hG (KeepLo.later b3)
 have B3:Hid (Below C w w3):=B2.out.trans (b3.mono (by have:=D2.out.cur.lt;omega))
 have X3:Hid (w3.heap[R0]? = some (.cells #[.slice none 0 0,.int .i64 0] 26 (0,0))):=(b3.block R0 (Array.getElem?_eq_some_iff.1 X2.out).1).trans X2.out
 have hR2:R0<w2.heap.size:=(Array.getElem?_eq_some_iff.1 X2.out).1
 have c0:w3.cell? ⟨w2.heap.size,0,none⟩=some (.slice (some ⟨g,0,none⟩) n cap):=by simp[World.cell?,x3]
 have c1:w3.cell? ⟨w2.heap.size,1,none⟩=some (.int .i64 vals):=by simp[World.cell?,x3]
 try rw[hw3]
 clear hw3 b3 x3 D2 G2 B2 X2 X1
 obtain⟨FB,hFB⟩:∃x,w2.heap.size=x:=⟨_,rfl⟩
 rw[hFB] at FB3 hR2 c0 c1 ⊢
 clear hFB
 refine(below_any C (n:Int) _ D3.out.cur).mono ?_
 rintro e w4 ⟨z,rfl,hz0,hz1,_,hf,hc⟩
 have hz2:=hz1 (by omega)
 obtain⟨b,rfl⟩:∃b:Nat,z=(b:Int):=⟨z.toNat,by omega⟩
 have hbn:b<n:=by omega
 have hRC:R0≠C:=by omega
 have hF3:FB<w3.heap.size:=(Array.getElem?_eq_some_iff.1 FB3.out).1
 have hFC:FB≠C:=by omega
 have D4:Hid (DSt w4 C (C+1) G bs):=D3.out.draw hf hc
 have G4:Hid (GenSt w4 C (C+1) G (.slice (some ⟨g,0,none⟩) bs.length cap) bs vals):=G3.out.lo D3.out.hG (KeepLo.fr hf (by omega))
 have B4:Hid (Below C w w4):=B3.out.trans (hf.belowAt (Nat.le_of_lt D3.out.cur.lt))
 have FB4:Hid (w4.heap[FB]? = some (.cells #[.slice (some ⟨g,0,none⟩) n cap,.int .i64 vals] 26 (0,0))):=(hf.block FB hF3 hFC).trans FB3.out
 have X4:Hid (w4.heap[R0]? = some (.cells #[.slice none 0 0,.int .i64 0] 26 (0,0))):=(hf.block R0 (Array.getElem?_eq_some_iff.1 X3.out).1 hRC).trans X3.out
 replace c0:w4.cell? ⟨FB,0,none⟩=some (.slice (some ⟨g,0,none⟩) n cap):=by simp[World.cell?,FB4.out]
 replace c1:w4.cell? ⟨FB,1,none⟩=some (.int .i64 vals):=by simp[World.cell?,FB4.out]
 obtain⟨x,hx⟩:∃x,bs[b]? = some x:=⟨_,List.getElem?_eq_getElem (by rw[HN.out];exact hbn)⟩
 obtain⟨g0,cap0,e0,hlog,hgw,hgG,hgc,hgf⟩:=G4.out.at hx
 cases e0
 have hgC:g≠C:=by omega
 have hgw4:g<w4.heap.size:=hgw
 obtain⟨ixs,hix,_,_⟩:=G4.out.ins b x hx
 obtain⟨la,lcap,hlv,_,hlc⟩:=ownsRow_cells hix
 obtain⟨nn,hnn⟩:∃k,x.ln=k:=⟨_,rfl⟩
 rw[hnn] at hlv hlc
 have q1:w4.cell? ⟨g,b*6+1,none⟩=some (.slice la nn lcap):=by rw[←hlv];exact hgc 1 _ (by omega) rfl
 obtain⟨pxs,hpx,hpi,_⟩:=G4.out.phi b x hx
 obtain⟨pa,pcap,hpv,_,hpc⟩:=ownsRow_cells hpx
 obtain⟨pn,hpn⟩:∃k,x.pn=k:=⟨_,rfl⟩
 rw[hpn] at hpv hpc hpx hpi
 have hbi:(b:Int)<(n:Int):=by omega
 have Q0:Hid (w4.cell? ⟨g,b*6,none⟩=some (.slice pa pn pcap)):=by rw[←hpv];exact hgc 0 _ (by omega) rfl
 have HLVC:Hid (0<nn→∃lb,la=some ⟨lb,0,none⟩):=fun h=>by obtain⟨lb,e,_⟩:=hlc h;exact⟨lb,e⟩
 have HPVC:Hid (0<pn→∃pb,pa=some ⟨pb,0,none⟩):=fun h=>by obtain⟨pb,e,_⟩:=hpc h;exact⟨pb,e⟩
 have HPI:Hid (∀i,i<pn→∃d av al,pxs[i*2]? = some (.int .i64 d)∧pxs[i*2+1]? = some av∧ArmRow1 w4 (C+1) av al):=hpi
 have HPX:Hid (w4.ownsRow (C+1) 74 2 x.pv pn pxs):=hpx
 clear hf hc hz1 hz2 D3 G3 B3 FB3 X3 hlc hpc hix hgc hgf hpi hpx hF3
 go_wp2_with fail
 refine(below_any C 16 _ D4.out.cur).mono ?_
 rintro e w5 ⟨y,rfl,hy0,hy1,_,hf,hc⟩
 have hF4:FB<w4.heap.size:=(Array.getElem?_eq_some_iff.1 FB4.out).1
 have D5:Hid (DSt w5 C (C+1) G bs):=D4.out.draw hf hc
 have G5:Hid (GenSt w5 C (C+1) G (.slice (some ⟨g,0,none⟩) bs.length cap) bs vals):=G4.out.lo D4.out.hG (KeepLo.fr hf (by omega))
 have B5:Hid (Below C w w5):=B4.out.trans (hf.belowAt (Nat.le_of_lt D4.out.cur.lt))
 have FB5:Hid (w5.heap[FB]? = some (.cells #[.slice (some ⟨g,0,none⟩) n cap,.int .i64 vals] 26 (0,0))):=(hf.block FB hF4 hFC).trans FB4.out
 have X5:Hid (w5.heap[R0]? = some (.cells #[.slice none 0 0,.int .i64 0] 26 (0,0))):=(hf.block R0 (Array.getElem?_eq_some_iff.1 X4.out).1 hRC).trans X4.out
 have c50:w5.cell? ⟨FB,0,none⟩=some (.slice (some ⟨g,0,none⟩) n cap):=by simp[World.cell?,FB5.out]
 have c51:w5.cell? ⟨FB,1,none⟩=some (.int .i64 vals):=by simp[World.cell?,FB5.out]
 have f51:w5.frozen? ⟨FB,1,none⟩=false:=by simp[World.frozen?,FB5.out]
 have kl:KeepLo (C+1) w4 w5:=KeepLo.fr (lo:=C+1) hf (by omega)
 have kl5:KeepLo (C+1) w4 w5.drew:=kl
 have q5:w5.cell? ⟨g,b*6,none⟩=some (.slice pa pn pcap):=(hf.cell (x:=⟨g,b*6,none⟩) hgw4 hgC).trans Q0.out
 have HPI5:Hid (∀i,i<pn→∃d av al,pxs[i*2]? = some (.int .i64 d)∧pxs[i*2+1]? = some av∧ArmRow1 w5.drew (C+1) av al):=fun i hi=>by
  obtain⟨d,av,al,e1,e2,e3⟩:=HPI.out i hi
  exact⟨d,av,al,e1,e2,e3.lo kl5⟩
 have HPX5:Hid (w5.drew.ownsRow (C+1) 74 2 x.pv pn pxs):=ownsRow_lo HPX.out kl5
 have HP5:Hid (ProgOk (C+1) g n cap w5):=G5.out.prog HN.out HN.out
 have G5d:GenSt w5.drew C (C+1) G (.slice (some ⟨g,0,none⟩) bs.length cap) bs vals:=⟨G5.out.box,G5.out.row,G5.out.ins,G5.out.phi,G5.out.apL,G5.out.apP⟩
 have HG5:Hid (GenSt w5.drew C (C+1) G (.slice (some ⟨g,0,none⟩) bs.length cap) bs vals):=G5d
 have hF5:FB<w5.heap.size:=(Array.getElem?_eq_some_iff.1 FB5.out).1
 have hC5:C<w5.heap.size:=D5.out.cur.lt
 clear hf hc hy1 kl kl5 D4 G4 B4 FB4 X4 c0 c1 q1 hgw hgw4 hgG Q0 HPI HPX G5d hF4
 have hall:y=0∨y=1∨y=2∨y=3∨y=4∨y=5∨y=6∨y=7∨8≤y:=by omega
 rcases hall with h0 | h1 | h2 | h3 | h4 | h5 | h6 | h7 | h8
 ·subst h0
  go_wp2_with fail
  obtain⟨E,hE⟩:∃E,wrap64 (vals-1)=E:=⟨_,rfl⟩
  rw[hE]
  refine(pickint_any C w5.heap.size [-1,0,E,80,81] 5 _ (D5.out.cur.later (Bel.alloc _ _)) (by omega) rfl (by omega) (by omega) ?_).mono ?_
  ·intro j hj
   have h5:j=0∨j=1∨j=2∨j=3∨j=4:=by omega
   rcases h5 with rfl | rfl | rfl | rfl | rfl <;> simp
  rintro e w6 ⟨y,rfl,_,hf,hc⟩
  have hf5:Fr C w5 w6:=(Fr.ofBelow (Bel.alloc _ _)).trans hf
  have hF6:w6.heap[FB]? = some (.cells #[.slice (some ⟨g,0,none⟩) n cap,.int .i64 vals] 26 (0,0)):=(hf5.block FB hF5 hFC).trans FB5.out
  have hR6:w6.heap[R0]? = some (.cells #[.slice none 0 0,.int .i64 0] 26 (0,0)):=(hf5.block R0 (Array.getElem?_eq_some_iff.1 X5.out).1 hRC).trans X5.out
  have gs6:GenSt w6 C (C+1) G (.slice (some ⟨g,0,none⟩) bs.length cap) bs vals:=G5.out.lo D5.out.hG (KeepLo.fr hf5 (by omega))
  have f61:w6.frozen? ⟨FB,1,none⟩=false:=by simp[World.frozen?,hF6]
  have f60:w6.cell? ⟨FB,1,none⟩=some (.int .i64 vals):=by simp[World.cell?,hF6]
  have bls:Below FB w6 (w6.setCell ⟨FB,1,none⟩ (.int .i64 y)):=(Below.refl FB w6).setCell (p:=⟨FB,1,none⟩) (Nat.le_refl _) _
  have HPW6:Hid (ProgOk (C+1) g n cap (w6.setCell ⟨FB,1,none⟩ (.int .i64 y))):=(gs6.prog HN.out HN.out).other (grown_set' w6 FB 1 (.int .i64 y)) hF6
  have hF7:(w6.setCell ⟨FB,1,none⟩ (.int .i64 y)).heap[FB]? = some (.cells #[.slice (some ⟨g,0,none⟩) n cap,.int .i64 y] 26 (0,0)):=by
   simp[World.setCell,Array.getElem?_modify,hF6]
  have HF7:Hid ((w6.setCell ⟨FB,1,none⟩ (.int .i64 y)).heap[FB]? = some (.cells #[.slice (some ⟨g,0,none⟩) n cap,.int .i64 y] 26 (0,0))):=hF7
  have HR7:Hid ((w6.setCell ⟨FB,1,none⟩ (.int .i64 y)).heap[R0]? = some (.cells #[.slice none 0 0,.int .i64 0] 26 (0,0))):=(bls.block R0 hR2).trans hR6
  have HB7:Hid (Below C w (w6.setCell ⟨FB,1,none⟩ (.int .i64 y))):=(B5.out.trans (hf5.belowAt (Nat.le_of_lt hC5))).trans (bls.mono (by omega))
  have HC7:Hid (Cur (w6.setCell ⟨FB,1,none⟩ (.int .i64 y)) C):=hc.below (by omega) bls
  have k0:w6.cell? ⟨FB,0,none⟩=some (.slice (some ⟨g,0,none⟩) n cap):=by simp[World.cell?,hF6]
  have k1:w6.cell? ⟨R0,0,none⟩=some (.slice none 0 0):=by simp[World.cell?,hR6]
  have k2:w6.cell? ⟨R0,1,none⟩=some (.int .i64 0):=by simp[World.cell?,hR6]
  have k3:w6.frozen? ⟨R0,0,none⟩=false:=by simp[World.frozen?,hR6]
  have k4:w6.frozen? ⟨R0,1,none⟩=false:=by simp[World.frozen?,hR6]
  have hRF:R0≠FB:=by omega
  clear hf hc hf5 hF6 hR6 gs6 bls hF7
  go_wp2_with fail
  obtain⟨W',hW'⟩:∃W,w6.setCell ⟨FB,1,none⟩ (.int .i64 y)=W:=⟨_,rfl⟩
  rw[hW'] at HPW6 HF7 HR7 HB7 HC7
  try rw[hW']
  clear hW'
  have hPW:=HPW6.out
  have hFW:=HF7.out
  have hRW:=HR7.out
  have hBW:=HB7.out
  have hCW:=HC7.out
  clear HPW6 HF7 HR7 HB7 HC7
  have e0:W'.cell? ⟨FB,0,none⟩=some (.slice (some ⟨g,0,none⟩) n cap):=by simp[World.cell?,hFW]
  have e1:W'.cell? ⟨FB,1,none⟩=some (.int .i64 y):=by simp[World.cell?,hFW]
  have y0:W'.cell? ⟨R0,0,none⟩=some (.slice none 0 0):=by simp[World.cell?,hRW]
  have y1:W'.cell? ⟨R0,1,none⟩=some (.int .i64 0):=by simp[World.cell?,hRW]
  have z0:W'.frozen? ⟨R0,0,none⟩=false:=by simp[World.frozen?,hRW]
  have z1:W'.frozen? ⟨R0,1,none⟩=false:=by simp[World.frozen?,hRW]
  have HPW:Hid (ProgOk (C+1) g n cap W'):=hPW
  have HRW:Hid (W'.heap[R0]? = some (.cells #[.slice none 0 0,.int .i64 0] 26 (0,0))):=hRW
  have HBW:Hid (Below C w W'):=hBW
  have HCW:Hid (Cur W' C):=hCW
  clear hPW hFW hRW hBW hCW
  have r0:((W'.setCell ⟨R0,0,none⟩ (.slice (some ⟨g,0,none⟩) n cap)).setCell ⟨R0,1,none⟩ (.int .i64 y)).cell? ⟨R0,0,none⟩=some (.slice (some ⟨g,0,none⟩) n cap):=by
   rw[World.cell?_setCell_other _ _ _ _ (by simp)]
   exact World.cell?_setCell_same _ _ _ y0
  have r1:((W'.setCell ⟨R0,0,none⟩ (.slice (some ⟨g,0,none⟩) n cap)).setCell ⟨R0,1,none⟩ (.int .i64 y)).cell? ⟨R0,1,none⟩=some (.int .i64 y) :=
   World.cell?_setCell_same _ _ _ ((World.cell?_setCell_other _ _ _ _ (by simp)).trans y1)
  refine bodyPost_ret (v := .agg #[.slice (some ⟨g,0,none⟩) n cap,.int .i64 y]) (by simp[results,Tryz.results38,go_sem,r0,r1]) rfl ?_
  exact draw_end (lo:=C+1) (FB:=FB) (by omega) (by omega) hn0 hn9 HPW.out HRW.out HBW.out HCW.out
 ·subst h1
  go_wp2_with fail
  refine wp_region_any (by kernel_rfl) ?_
  refine drawTo C (C+1) FB R0 g n cap b nn 0 0 vals _ G bs x D5.out.drew HG5.out HN.out hbn hx ⟨_,FB5.out⟩ hFC ⟨_,_,X5.out⟩ hRC _ ?_ ?_ ?_ ?_ ?_ _ ?_
  ·rfl
  ·rfl
  ·rfl
  ·rfl
  ·rfl
  rintro f W' ⟨hPW,hF0,hR0W,hB0,hCW⟩
  have hFW:W'.heap[FB]? = some (.cells #[.slice (some ⟨g,0,none⟩) n cap,.int .i64 vals] 26 (0,0)):=hF0.trans FB5.out
  have hRW:W'.heap[R0]? = some (.cells #[.slice none 0 0,.int .i64 0] 26 (0,0)):=hR0W.trans X5.out
  have hBW:Below C w W':=B5.out.trans ⟨hB0.os,hB0.tape,hB0.output,hB0.size,hB0.block⟩
  clear hF0 hR0W hB0
  have e0:W'.cell? ⟨FB,0,none⟩=some (.slice (some ⟨g,0,none⟩) n cap):=by simp[World.cell?,hFW]
  have e1:W'.cell? ⟨FB,1,none⟩=some (.int .i64 vals):=by simp[World.cell?,hFW]
  have y0:W'.cell? ⟨R0,0,none⟩=some (.slice none 0 0):=by simp[World.cell?,hRW]
  have y1:W'.cell? ⟨R0,1,none⟩=some (.int .i64 0):=by simp[World.cell?,hRW]
  have z0:W'.frozen? ⟨R0,0,none⟩=false:=by simp[World.frozen?,hRW]
  have z1:W'.frozen? ⟨R0,1,none⟩=false:=by simp[World.frozen?,hRW]
  have HPW:Hid (ProgOk (C+1) g n cap W'):=hPW
  have HRW:Hid (W'.heap[R0]? = some (.cells #[.slice none 0 0,.int .i64 0] 26 (0,0))):=hRW
  have HBW:Hid (Below C w W'):=hBW
  have HCW:Hid (Cur W' C):=hCW
  clear hPW hFW hRW hBW hCW
  have hrng:List.range' 33 9 = [33,34,35,36,37,38,39,40,41]:=rfl
  simp only[putL,hrng,List.foldl_cons,List.foldl_nil,Act.put,Exit.then,Exit.inBlock,List.setIfInBounds_toArray,List.set_cons_succ,List.set_cons_zero]
  go_at_K
  go_wp2_with fail
  have r0:((W'.setCell ⟨R0,0,none⟩ (.slice (some ⟨g,0,none⟩) n cap)).setCell ⟨R0,1,none⟩ (.int .i64 vals)).cell? ⟨R0,0,none⟩=some (.slice (some ⟨g,0,none⟩) n cap):=by
   rw[World.cell?_setCell_other _ _ _ _ (by simp)]
   exact World.cell?_setCell_same _ _ _ y0
  have r1:((W'.setCell ⟨R0,0,none⟩ (.slice (some ⟨g,0,none⟩) n cap)).setCell ⟨R0,1,none⟩ (.int .i64 vals)).cell? ⟨R0,1,none⟩=some (.int .i64 vals) :=
   World.cell?_setCell_same _ _ _ ((World.cell?_setCell_other _ _ _ _ (by simp)).trans y1)
  refine bodyPost_ret (v := .agg #[.slice (some ⟨g,0,none⟩) n cap,.int .i64 vals]) (by simp[results,Tryz.results38,go_sem,r0,r1]) rfl ?_
  exact draw_end (lo:=C+1) (FB:=FB) (by omega) (by omega) hn0 hn9 HPW.out HRW.out HBW.out HCW.out
 ·subst h2
  go_wp2_with fail
  refine wp_region_any (by kernel_rfl) ?_
  refine drawTerm C (C+1) FB R0 g n cap b nn 0 0 vals _ G bs x D5.out.drew HG5.out HN.out hbn hx ⟨_,FB5.out⟩ hFC ⟨_,_,X5.out⟩ hRC _ ?_ ?_ ?_ ?_ ?_ _ ?_
  ·rfl
  ·rfl
  ·rfl
  ·rfl
  ·rfl
  rintro f W' ⟨hPW,hF0,hR0W,hB0,hCW⟩
  have hFW:W'.heap[FB]? = some (.cells #[.slice (some ⟨g,0,none⟩) n cap,.int .i64 vals] 26 (0,0)):=hF0.trans FB5.out
  have hRW:W'.heap[R0]? = some (.cells #[.slice none 0 0,.int .i64 0] 26 (0,0)):=hR0W.trans X5.out
  have hBW:Below C w W':=B5.out.trans ⟨hB0.os,hB0.tape,hB0.output,hB0.size,hB0.block⟩
  clear hF0 hR0W hB0
  have e0:W'.cell? ⟨FB,0,none⟩=some (.slice (some ⟨g,0,none⟩) n cap):=by simp[World.cell?,hFW]
  have e1:W'.cell? ⟨FB,1,none⟩=some (.int .i64 vals):=by simp[World.cell?,hFW]
  have y0:W'.cell? ⟨R0,0,none⟩=some (.slice none 0 0):=by simp[World.cell?,hRW]
  have y1:W'.cell? ⟨R0,1,none⟩=some (.int .i64 0):=by simp[World.cell?,hRW]
  have z0:W'.frozen? ⟨R0,0,none⟩=false:=by simp[World.frozen?,hRW]
  have z1:W'.frozen? ⟨R0,1,none⟩=false:=by simp[World.frozen?,hRW]
  have HPW:Hid (ProgOk (C+1) g n cap W'):=hPW
  have HRW:Hid (W'.heap[R0]? = some (.cells #[.slice none 0 0,.int .i64 0] 26 (0,0))):=hRW
  have HBW:Hid (Below C w W'):=hBW
  have HCW:Hid (Cur W' C):=hCW
  clear hPW hFW hRW hBW hCW
  have hrng:List.range' 44 20 = [44,45,46,47,48,49,50,51,52,53,54,55,56,57,58,59,60,61,62,63]:=rfl
  simp only[putL,hrng,List.foldl_cons,List.foldl_nil,Act.put,Exit.then,Exit.inBlock,List.setIfInBounds_toArray,List.set_cons_succ,List.set_cons_zero]
  go_at_K
  go_wp2_with fail
  have r0:((W'.setCell ⟨R0,0,none⟩ (.slice (some ⟨g,0,none⟩) n cap)).setCell ⟨R0,1,none⟩ (.int .i64 vals)).cell? ⟨R0,0,none⟩=some (.slice (some ⟨g,0,none⟩) n cap):=by
   rw[World.cell?_setCell_other _ _ _ _ (by simp)]
   exact World.cell?_setCell_same _ _ _ y0
  have r1:((W'.setCell ⟨R0,0,none⟩ (.slice (some ⟨g,0,none⟩) n cap)).setCell ⟨R0,1,none⟩ (.int .i64 vals)).cell? ⟨R0,1,none⟩=some (.int .i64 vals) :=
   World.cell?_setCell_same _ _ _ ((World.cell?_setCell_other _ _ _ _ (by simp)).trans y1)
  refine bodyPost_ret (v := .agg #[.slice (some ⟨g,0,none⟩) n cap,.int .i64 vals]) (by simp[results,Tryz.results38,go_sem,r0,r1]) rfl ?_
  exact draw_end (lo:=C+1) (FB:=FB) (by omega) (by omega) hn0 hn9 HPW.out HRW.out HBW.out HCW.out
 ·subst h3
  rcases Nat.eq_zero_or_pos nn with hnn0 | hnn0
  ·subst hnn0
   have hPW:=HP5.out
   have hFW:=FB5.out
   have hRW:=X5.out
   have hBW:=B5.out
   have hCW:=D5.out.cur
   have e0:w5.cell? ⟨FB,0,none⟩=some (.slice (some ⟨g,0,none⟩) n cap):=by simp[World.cell?,hFW]
   have e1:w5.cell? ⟨FB,1,none⟩=some (.int .i64 vals):=by simp[World.cell?,hFW]
   have y0:w5.cell? ⟨R0,0,none⟩=some (.slice none 0 0):=by simp[World.cell?,hRW]
   have y1:w5.cell? ⟨R0,1,none⟩=some (.int .i64 0):=by simp[World.cell?,hRW]
   have z0:w5.frozen? ⟨R0,0,none⟩=false:=by simp[World.frozen?,hRW]
   have z1:w5.frozen? ⟨R0,1,none⟩=false:=by simp[World.frozen?,hRW]
   have HPW:Hid (ProgOk (C+1) g n cap w5):=hPW
   have HRW:Hid (w5.heap[R0]? = some (.cells #[.slice none 0 0,.int .i64 0] 26 (0,0))):=hRW
   have HBW:Hid (Below C w w5):=hBW
   have HCW:Hid (Cur w5 C):=hCW
   clear hPW hFW hRW hBW hCW
   go_wp2_with fail
   have r0:((w5.setCell ⟨R0,0,none⟩ (.slice (some ⟨g,0,none⟩) n cap)).setCell ⟨R0,1,none⟩ (.int .i64 vals)).cell? ⟨R0,0,none⟩=some (.slice (some ⟨g,0,none⟩) n cap):=by
    rw[World.cell?_setCell_other _ _ _ _ (by simp)]
    exact World.cell?_setCell_same _ _ _ y0
   have r1:((w5.setCell ⟨R0,0,none⟩ (.slice (some ⟨g,0,none⟩) n cap)).setCell ⟨R0,1,none⟩ (.int .i64 vals)).cell? ⟨R0,1,none⟩=some (.int .i64 vals) :=
    World.cell?_setCell_same _ _ _ ((World.cell?_setCell_other _ _ _ _ (by simp)).trans y1)
   refine bodyPost_ret (v := .agg #[.slice (some ⟨g,0,none⟩) n cap,.int .i64 vals]) (by simp[results,Tryz.results38,go_sem,r0,r1]) rfl ?_
   exact draw_end (lo:=C+1) (FB:=FB) (by omega) (by omega) hn0 hn9 HPW.out HRW.out HBW.out HCW.out
  obtain⟨lb,hlb⟩:=HLVC.out hnn0
  subst hlb
  go_wp2_with fail
  refine wp_region_any (by kernel_rfl) ?_
  refine drawA C (C+1) FB R0 g n cap b nn lb lcap vals _ G bs x D5.out.drew HG5.out HN.out hbn hx ⟨_,FB5.out⟩ hFC ⟨_,_,X5.out⟩ hRC hlv hnn hnn0 _ ?_ ?_ ?_ ?_ ?_ _ ?_
  ·rfl
  ·rfl
  ·rfl
  ·rfl
  ·rfl
  rintro f W' ⟨hPW,hF0,hR0W,hB0,hCW⟩
  have hFW:W'.heap[FB]? = some (.cells #[.slice (some ⟨g,0,none⟩) n cap,.int .i64 vals] 26 (0,0)):=hF0.trans FB5.out
  have hRW:W'.heap[R0]? = some (.cells #[.slice none 0 0,.int .i64 0] 26 (0,0)):=hR0W.trans X5.out
  have hBW:Below C w W':=B5.out.trans ⟨hB0.os,hB0.tape,hB0.output,hB0.size,hB0.block⟩
  clear hF0 hR0W hB0
  have e0:W'.cell? ⟨FB,0,none⟩=some (.slice (some ⟨g,0,none⟩) n cap):=by simp[World.cell?,hFW]
  have e1:W'.cell? ⟨FB,1,none⟩=some (.int .i64 vals):=by simp[World.cell?,hFW]
  have y0:W'.cell? ⟨R0,0,none⟩=some (.slice none 0 0):=by simp[World.cell?,hRW]
  have y1:W'.cell? ⟨R0,1,none⟩=some (.int .i64 0):=by simp[World.cell?,hRW]
  have z0:W'.frozen? ⟨R0,0,none⟩=false:=by simp[World.frozen?,hRW]
  have z1:W'.frozen? ⟨R0,1,none⟩=false:=by simp[World.frozen?,hRW]
  have HPW:Hid (ProgOk (C+1) g n cap W'):=hPW
  have HRW:Hid (W'.heap[R0]? = some (.cells #[.slice none 0 0,.int .i64 0] 26 (0,0))):=hRW
  have HBW:Hid (Below C w W'):=hBW
  have HCW:Hid (Cur W' C):=hCW
  clear hPW hFW hRW hBW hCW
  have hrng:List.range' 68 16 = [68,69,70,71,72,73,74,75,76,77,78,79,80,81,82,83]:=rfl
  simp only[putL,hrng,List.foldl_cons,List.foldl_nil,Act.put,Exit.then,Exit.inBlock,List.setIfInBounds_toArray,List.set_cons_succ,List.set_cons_zero]
  go_at_K
  go_wp2_with fail
  have r0:((W'.setCell ⟨R0,0,none⟩ (.slice (some ⟨g,0,none⟩) n cap)).setCell ⟨R0,1,none⟩ (.int .i64 vals)).cell? ⟨R0,0,none⟩=some (.slice (some ⟨g,0,none⟩) n cap):=by
   rw[World.cell?_setCell_other _ _ _ _ (by simp)]
   exact World.cell?_setCell_same _ _ _ y0
  have r1:((W'.setCell ⟨R0,0,none⟩ (.slice (some ⟨g,0,none⟩) n cap)).setCell ⟨R0,1,none⟩ (.int .i64 vals)).cell? ⟨R0,1,none⟩=some (.int .i64 vals) :=
   World.cell?_setCell_same _ _ _ ((World.cell?_setCell_other _ _ _ _ (by simp)).trans y1)
  refine bodyPost_ret (v := .agg #[.slice (some ⟨g,0,none⟩) n cap,.int .i64 vals]) (by simp[results,Tryz.results38,go_sem,r0,r1]) rfl ?_
  exact draw_end (lo:=C+1) (FB:=FB) (by omega) (by omega) hn0 hn9 HPW.out HRW.out HBW.out HCW.out
 ·subst h4
  rcases Nat.eq_zero_or_pos nn with hnn0 | hnn0
  ·subst hnn0
   have hPW:=HP5.out
   have hFW:=FB5.out
   have hRW:=X5.out
   have hBW:=B5.out
   have hCW:=D5.out.cur
   have e0:w5.cell? ⟨FB,0,none⟩=some (.slice (some ⟨g,0,none⟩) n cap):=by simp[World.cell?,hFW]
   have e1:w5.cell? ⟨FB,1,none⟩=some (.int .i64 vals):=by simp[World.cell?,hFW]
   have y0:w5.cell? ⟨R0,0,none⟩=some (.slice none 0 0):=by simp[World.cell?,hRW]
   have y1:w5.cell? ⟨R0,1,none⟩=some (.int .i64 0):=by simp[World.cell?,hRW]
   have z0:w5.frozen? ⟨R0,0,none⟩=false:=by simp[World.frozen?,hRW]
   have z1:w5.frozen? ⟨R0,1,none⟩=false:=by simp[World.frozen?,hRW]
   have HPW:Hid (ProgOk (C+1) g n cap w5):=hPW
   have HRW:Hid (w5.heap[R0]? = some (.cells #[.slice none 0 0,.int .i64 0] 26 (0,0))):=hRW
   have HBW:Hid (Below C w w5):=hBW
   have HCW:Hid (Cur w5 C):=hCW
   clear hPW hFW hRW hBW hCW
   go_wp2_with fail
   have r0:((w5.setCell ⟨R0,0,none⟩ (.slice (some ⟨g,0,none⟩) n cap)).setCell ⟨R0,1,none⟩ (.int .i64 vals)).cell? ⟨R0,0,none⟩=some (.slice (some ⟨g,0,none⟩) n cap):=by
    rw[World.cell?_setCell_other _ _ _ _ (by simp)]
    exact World.cell?_setCell_same _ _ _ y0
   have r1:((w5.setCell ⟨R0,0,none⟩ (.slice (some ⟨g,0,none⟩) n cap)).setCell ⟨R0,1,none⟩ (.int .i64 vals)).cell? ⟨R0,1,none⟩=some (.int .i64 vals) :=
    World.cell?_setCell_same _ _ _ ((World.cell?_setCell_other _ _ _ _ (by simp)).trans y1)
   refine bodyPost_ret (v := .agg #[.slice (some ⟨g,0,none⟩) n cap,.int .i64 vals]) (by simp[results,Tryz.results38,go_sem,r0,r1]) rfl ?_
   exact draw_end (lo:=C+1) (FB:=FB) (by omega) (by omega) hn0 hn9 HPW.out HRW.out HBW.out HCW.out
  obtain⟨lb,hlb⟩:=HLVC.out hnn0
  subst hlb
  go_wp2_with fail
  refine wp_region_any (by kernel_rfl) ?_
  refine drawD C (C+1) FB R0 g n cap b nn lb lcap vals _ G bs x D5.out.drew HG5.out HN.out hbn hx ⟨_,FB5.out⟩ hFC ⟨_,_,X5.out⟩ hRC hlv hnn hnn0 _ ?_ ?_ ?_ ?_ ?_ _ ?_
  ·rfl
  ·rfl
  ·rfl
  ·rfl
  ·rfl
  rintro f W' ⟨hPW,hF0,hR0W,hB0,hCW⟩
  have hFW:W'.heap[FB]? = some (.cells #[.slice (some ⟨g,0,none⟩) n cap,.int .i64 vals] 26 (0,0)):=hF0.trans FB5.out
  have hRW:W'.heap[R0]? = some (.cells #[.slice none 0 0,.int .i64 0] 26 (0,0)):=hR0W.trans X5.out
  have hBW:Below C w W':=B5.out.trans ⟨hB0.os,hB0.tape,hB0.output,hB0.size,hB0.block⟩
  clear hF0 hR0W hB0
  have e0:W'.cell? ⟨FB,0,none⟩=some (.slice (some ⟨g,0,none⟩) n cap):=by simp[World.cell?,hFW]
  have e1:W'.cell? ⟨FB,1,none⟩=some (.int .i64 vals):=by simp[World.cell?,hFW]
  have y0:W'.cell? ⟨R0,0,none⟩=some (.slice none 0 0):=by simp[World.cell?,hRW]
  have y1:W'.cell? ⟨R0,1,none⟩=some (.int .i64 0):=by simp[World.cell?,hRW]
  have z0:W'.frozen? ⟨R0,0,none⟩=false:=by simp[World.frozen?,hRW]
  have z1:W'.frozen? ⟨R0,1,none⟩=false:=by simp[World.frozen?,hRW]
  have HPW:Hid (ProgOk (C+1) g n cap W'):=hPW
  have HRW:Hid (W'.heap[R0]? = some (.cells #[.slice none 0 0,.int .i64 0] 26 (0,0))):=hRW
  have HBW:Hid (Below C w W'):=hBW
  have HCW:Hid (Cur W' C):=hCW
  clear hPW hFW hRW hBW hCW
  have hrng:List.range' 88 17 = [88,89,90,91,92,93,94,95,96,97,98,99,100,101,102,103,104]:=rfl
  simp only[putL,hrng,List.foldl_cons,List.foldl_nil,Act.put,Exit.then,Exit.inBlock,List.setIfInBounds_toArray,List.set_cons_succ,List.set_cons_zero]
  go_at_K
  go_wp2_with fail
  have r0:((W'.setCell ⟨R0,0,none⟩ (.slice (some ⟨g,0,none⟩) n cap)).setCell ⟨R0,1,none⟩ (.int .i64 vals)).cell? ⟨R0,0,none⟩=some (.slice (some ⟨g,0,none⟩) n cap):=by
   rw[World.cell?_setCell_other _ _ _ _ (by simp)]
   exact World.cell?_setCell_same _ _ _ y0
  have r1:((W'.setCell ⟨R0,0,none⟩ (.slice (some ⟨g,0,none⟩) n cap)).setCell ⟨R0,1,none⟩ (.int .i64 vals)).cell? ⟨R0,1,none⟩=some (.int .i64 vals) :=
   World.cell?_setCell_same _ _ _ ((World.cell?_setCell_other _ _ _ _ (by simp)).trans y1)
  refine bodyPost_ret (v := .agg #[.slice (some ⟨g,0,none⟩) n cap,.int .i64 vals]) (by simp[results,Tryz.results38,go_sem,r0,r1]) rfl ?_
  exact draw_end (lo:=C+1) (FB:=FB) (by omega) (by omega) hn0 hn9 HPW.out HRW.out HBW.out HCW.out
 ·subst h5
  rcases Nat.eq_zero_or_pos nn with hnn0 | hnn0
  ·subst hnn0
   have hPW:=HP5.out
   have hFW:=FB5.out
   have hRW:=X5.out
   have hBW:=B5.out
   have hCW:=D5.out.cur
   have e0:w5.cell? ⟨FB,0,none⟩=some (.slice (some ⟨g,0,none⟩) n cap):=by simp[World.cell?,hFW]
   have e1:w5.cell? ⟨FB,1,none⟩=some (.int .i64 vals):=by simp[World.cell?,hFW]
   have y0:w5.cell? ⟨R0,0,none⟩=some (.slice none 0 0):=by simp[World.cell?,hRW]
   have y1:w5.cell? ⟨R0,1,none⟩=some (.int .i64 0):=by simp[World.cell?,hRW]
   have z0:w5.frozen? ⟨R0,0,none⟩=false:=by simp[World.frozen?,hRW]
   have z1:w5.frozen? ⟨R0,1,none⟩=false:=by simp[World.frozen?,hRW]
   have HPW:Hid (ProgOk (C+1) g n cap w5):=hPW
   have HRW:Hid (w5.heap[R0]? = some (.cells #[.slice none 0 0,.int .i64 0] 26 (0,0))):=hRW
   have HBW:Hid (Below C w w5):=hBW
   have HCW:Hid (Cur w5 C):=hCW
   clear hPW hFW hRW hBW hCW
   go_wp2_with fail
   have r0:((w5.setCell ⟨R0,0,none⟩ (.slice (some ⟨g,0,none⟩) n cap)).setCell ⟨R0,1,none⟩ (.int .i64 vals)).cell? ⟨R0,0,none⟩=some (.slice (some ⟨g,0,none⟩) n cap):=by
    rw[World.cell?_setCell_other _ _ _ _ (by simp)]
    exact World.cell?_setCell_same _ _ _ y0
   have r1:((w5.setCell ⟨R0,0,none⟩ (.slice (some ⟨g,0,none⟩) n cap)).setCell ⟨R0,1,none⟩ (.int .i64 vals)).cell? ⟨R0,1,none⟩=some (.int .i64 vals) :=
    World.cell?_setCell_same _ _ _ ((World.cell?_setCell_other _ _ _ _ (by simp)).trans y1)
   refine bodyPost_ret (v := .agg #[.slice (some ⟨g,0,none⟩) n cap,.int .i64 vals]) (by simp[results,Tryz.results38,go_sem,r0,r1]) rfl ?_
   exact draw_end (lo:=C+1) (FB:=FB) (by omega) (by omega) hn0 hn9 HPW.out HRW.out HBW.out HCW.out
  obtain⟨lb,hlb⟩:=HLVC.out hnn0
  subst hlb
  go_wp2_with fail
  refine wp_region_any (by kernel_rfl) ?_
  refine drawOp C (C+1) FB R0 g n cap b nn lb lcap vals _ G bs x D5.out.drew HG5.out HN.out hbn hx ⟨_,FB5.out⟩ hFC ⟨_,_,X5.out⟩ hRC hlv hnn hnn0 _ ?_ ?_ ?_ ?_ ?_ _ ?_
  ·rfl
  ·rfl
  ·rfl
  ·rfl
  ·rfl
  rintro f W' ⟨hPW,hF0,hR0W,hB0,hCW⟩
  have hFW:W'.heap[FB]? = some (.cells #[.slice (some ⟨g,0,none⟩) n cap,.int .i64 vals] 26 (0,0)):=hF0.trans FB5.out
  have hRW:W'.heap[R0]? = some (.cells #[.slice none 0 0,.int .i64 0] 26 (0,0)):=hR0W.trans X5.out
  have hBW:Below C w W':=B5.out.trans ⟨hB0.os,hB0.tape,hB0.output,hB0.size,hB0.block⟩
  clear hF0 hR0W hB0
  have e0:W'.cell? ⟨FB,0,none⟩=some (.slice (some ⟨g,0,none⟩) n cap):=by simp[World.cell?,hFW]
  have e1:W'.cell? ⟨FB,1,none⟩=some (.int .i64 vals):=by simp[World.cell?,hFW]
  have y0:W'.cell? ⟨R0,0,none⟩=some (.slice none 0 0):=by simp[World.cell?,hRW]
  have y1:W'.cell? ⟨R0,1,none⟩=some (.int .i64 0):=by simp[World.cell?,hRW]
  have z0:W'.frozen? ⟨R0,0,none⟩=false:=by simp[World.frozen?,hRW]
  have z1:W'.frozen? ⟨R0,1,none⟩=false:=by simp[World.frozen?,hRW]
  have HPW:Hid (ProgOk (C+1) g n cap W'):=hPW
  have HRW:Hid (W'.heap[R0]? = some (.cells #[.slice none 0 0,.int .i64 0] 26 (0,0))):=hRW
  have HBW:Hid (Below C w W'):=hBW
  have HCW:Hid (Cur W' C):=hCW
  clear hPW hFW hRW hBW hCW
  have hrng:List.range' 109 14 = [109,110,111,112,113,114,115,116,117,118,119,120,121,122]:=rfl
  simp only[putL,hrng,List.foldl_cons,List.foldl_nil,Act.put,Exit.then,Exit.inBlock,List.setIfInBounds_toArray,List.set_cons_succ,List.set_cons_zero]
  go_at_K
  go_wp2_with fail
  have r0:((W'.setCell ⟨R0,0,none⟩ (.slice (some ⟨g,0,none⟩) n cap)).setCell ⟨R0,1,none⟩ (.int .i64 vals)).cell? ⟨R0,0,none⟩=some (.slice (some ⟨g,0,none⟩) n cap):=by
   rw[World.cell?_setCell_other _ _ _ _ (by simp)]
   exact World.cell?_setCell_same _ _ _ y0
  have r1:((W'.setCell ⟨R0,0,none⟩ (.slice (some ⟨g,0,none⟩) n cap)).setCell ⟨R0,1,none⟩ (.int .i64 vals)).cell? ⟨R0,1,none⟩=some (.int .i64 vals) :=
   World.cell?_setCell_same _ _ _ ((World.cell?_setCell_other _ _ _ _ (by simp)).trans y1)
  refine bodyPost_ret (v := .agg #[.slice (some ⟨g,0,none⟩) n cap,.int .i64 vals]) (by simp[results,Tryz.results38,go_sem,r0,r1]) rfl ?_
  exact draw_end (lo:=C+1) (FB:=FB) (by omega) (by omega) hn0 hn9 HPW.out HRW.out HBW.out HCW.out
 ·subst h6
  rcases Nat.eq_zero_or_pos pn with hpn0 | hpn0
  ·subst hpn0
   have hPW:=HP5.out
   have hFW:=FB5.out
   have hRW:=X5.out
   have hBW:=B5.out
   have hCW:=D5.out.cur
   have e0:w5.cell? ⟨FB,0,none⟩=some (.slice (some ⟨g,0,none⟩) n cap):=by simp[World.cell?,hFW]
   have e1:w5.cell? ⟨FB,1,none⟩=some (.int .i64 vals):=by simp[World.cell?,hFW]
   have y0:w5.cell? ⟨R0,0,none⟩=some (.slice none 0 0):=by simp[World.cell?,hRW]
   have y1:w5.cell? ⟨R0,1,none⟩=some (.int .i64 0):=by simp[World.cell?,hRW]
   have z0:w5.frozen? ⟨R0,0,none⟩=false:=by simp[World.frozen?,hRW]
   have z1:w5.frozen? ⟨R0,1,none⟩=false:=by simp[World.frozen?,hRW]
   have HPW:Hid (ProgOk (C+1) g n cap w5):=hPW
   have HRW:Hid (w5.heap[R0]? = some (.cells #[.slice none 0 0,.int .i64 0] 26 (0,0))):=hRW
   have HBW:Hid (Below C w w5):=hBW
   have HCW:Hid (Cur w5 C):=hCW
   clear hPW hFW hRW hBW hCW
   go_wp2_with fail
   have r0:((w5.setCell ⟨R0,0,none⟩ (.slice (some ⟨g,0,none⟩) n cap)).setCell ⟨R0,1,none⟩ (.int .i64 vals)).cell? ⟨R0,0,none⟩=some (.slice (some ⟨g,0,none⟩) n cap):=by
    rw[World.cell?_setCell_other _ _ _ _ (by simp)]
    exact World.cell?_setCell_same _ _ _ y0
   have r1:((w5.setCell ⟨R0,0,none⟩ (.slice (some ⟨g,0,none⟩) n cap)).setCell ⟨R0,1,none⟩ (.int .i64 vals)).cell? ⟨R0,1,none⟩=some (.int .i64 vals) :=
    World.cell?_setCell_same _ _ _ ((World.cell?_setCell_other _ _ _ _ (by simp)).trans y1)
   refine bodyPost_ret (v := .agg #[.slice (some ⟨g,0,none⟩) n cap,.int .i64 vals]) (by simp[results,Tryz.results38,go_sem,r0,r1]) rfl ?_
   exact draw_end (lo:=C+1) (FB:=FB) (by omega) (by omega) hn0 hn9 HPW.out HRW.out HBW.out HCW.out
  obtain⟨pb,hpb⟩:=HPVC.out hpn0
  subst hpb
  obtain⟨d0,av,al,hd0,hav,hal⟩:=HPI5.out 0 hpn0
  have hpo:=HPX5.out
  rw[hpv] at hpo
  go_wp2_with fail
  refine wp_region_any (by kernel_rfl) ?_
  refine drawArms C (C+1) FB R0 g n cap b nn pb pn pcap av vals _ G bs x D5.out.drew HG5.out HN.out hbn hx ⟨_,FB5.out⟩ hFC ⟨_,_,X5.out⟩ hRC al hpv hpn hpn0 pxs hpo hav hal _ ?_ ?_ ?_ ?_ ?_ _ ?_
  ·rfl
  ·rfl
  ·rfl
  ·rfl
  ·rfl
  rintro f W' ⟨hPW,hF0,hR0W,hB0,hCW⟩
  have hFW:W'.heap[FB]? = some (.cells #[.slice (some ⟨g,0,none⟩) n cap,.int .i64 vals] 26 (0,0)):=hF0.trans FB5.out
  have hRW:W'.heap[R0]? = some (.cells #[.slice none 0 0,.int .i64 0] 26 (0,0)):=hR0W.trans X5.out
  have hBW:Below C w W':=B5.out.trans ⟨hB0.os,hB0.tape,hB0.output,hB0.size,hB0.block⟩
  clear hF0 hR0W hB0
  have e0:W'.cell? ⟨FB,0,none⟩=some (.slice (some ⟨g,0,none⟩) n cap):=by simp[World.cell?,hFW]
  have e1:W'.cell? ⟨FB,1,none⟩=some (.int .i64 vals):=by simp[World.cell?,hFW]
  have y0:W'.cell? ⟨R0,0,none⟩=some (.slice none 0 0):=by simp[World.cell?,hRW]
  have y1:W'.cell? ⟨R0,1,none⟩=some (.int .i64 0):=by simp[World.cell?,hRW]
  have z0:W'.frozen? ⟨R0,0,none⟩=false:=by simp[World.frozen?,hRW]
  have z1:W'.frozen? ⟨R0,1,none⟩=false:=by simp[World.frozen?,hRW]
  have HPW:Hid (ProgOk (C+1) g n cap W'):=hPW
  have HRW:Hid (W'.heap[R0]? = some (.cells #[.slice none 0 0,.int .i64 0] 26 (0,0))):=hRW
  have HBW:Hid (Below C w W'):=hBW
  have HCW:Hid (Cur W' C):=hCW
  clear hPW hFW hRW hBW hCW
  have hrng:List.range' 133 18 = [133,134,135,136,137,138,139,140,141,142,143,144,145,146,147,148,149,150]:=rfl
  simp only[putL,hrng,List.foldl_cons,List.foldl_nil,Act.put,Exit.then,Exit.inBlock,List.setIfInBounds_toArray,List.set_cons_succ,List.set_cons_zero]
  go_at_K
  go_wp2_with fail
  have r0:((W'.setCell ⟨R0,0,none⟩ (.slice (some ⟨g,0,none⟩) n cap)).setCell ⟨R0,1,none⟩ (.int .i64 vals)).cell? ⟨R0,0,none⟩=some (.slice (some ⟨g,0,none⟩) n cap):=by
   rw[World.cell?_setCell_other _ _ _ _ (by simp)]
   exact World.cell?_setCell_same _ _ _ y0
  have r1:((W'.setCell ⟨R0,0,none⟩ (.slice (some ⟨g,0,none⟩) n cap)).setCell ⟨R0,1,none⟩ (.int .i64 vals)).cell? ⟨R0,1,none⟩=some (.int .i64 vals) :=
   World.cell?_setCell_same _ _ _ ((World.cell?_setCell_other _ _ _ _ (by simp)).trans y1)
  refine bodyPost_ret (v := .agg #[.slice (some ⟨g,0,none⟩) n cap,.int .i64 vals]) (by simp[results,Tryz.results38,go_sem,r0,r1]) rfl ?_
  exact draw_end (lo:=C+1) (FB:=FB) (by omega) (by omega) hn0 hn9 HPW.out HRW.out HBW.out HCW.out
 ·subst h7
  go_wp2_with fail
  refine region_onlyN 19 (fun W=>W.cell? ⟨FB,0,none⟩=some (.slice (some ⟨g,0,none⟩) n cap)∧W.cell? ⟨FB,1,none⟩=some (.int .i64 vals)∧W.cell? ⟨g,b*6,none⟩=some (.slice pa pn pcap)) (by kernel_rfl) ?_
  refine drawPhi C (C+1) FB R0 g n cap b pn pcap pa vals _ G bs x D5.out.drew HG5.out HN.out hbn hx ⟨_,FB5.out⟩ hFC ⟨_,_,X5.out⟩ hRC hpv hpn _ ?_ ?_ ?_ ?_ _ (fun _ _ _ h=>h.elim) ?_
  ·rfl
  ·rfl
  ·rfl
  ·rfl
  rintro z8 z9 Ph v' W' ⟨hPW,hF0,hR0W,hB0,hCW⟩
  have hFW:W'.heap[FB]? = some (.cells #[.slice (some ⟨g,0,none⟩) n cap,.int .i64 vals] 26 (0,0)):=hF0.trans FB5.out
  have hRW:W'.heap[R0]? = some (.cells #[.slice none 0 0,.int .i64 0] 26 (0,0)):=hR0W.trans X5.out
  have hBW:Below C w W':=B5.out.trans ⟨hB0.os,hB0.tape,hB0.output,hB0.size,hB0.block⟩
  clear hF0 hR0W hB0
  have e0:W'.cell? ⟨FB,0,none⟩=some (.slice (some ⟨g,0,none⟩) n cap):=by simp[World.cell?,hFW]
  have e1:W'.cell? ⟨FB,1,none⟩=some (.int .i64 vals):=by simp[World.cell?,hFW]
  have y0:W'.cell? ⟨R0,0,none⟩=some (.slice none 0 0):=by simp[World.cell?,hRW]
  have y1:W'.cell? ⟨R0,1,none⟩=some (.int .i64 0):=by simp[World.cell?,hRW]
  have z0:W'.frozen? ⟨R0,0,none⟩=false:=by simp[World.frozen?,hRW]
  have z1:W'.frozen? ⟨R0,1,none⟩=false:=by simp[World.frozen?,hRW]
  have HPW:Hid (ProgOk (C+1) g n cap W'):=hPW
  have HRW:Hid (W'.heap[R0]? = some (.cells #[.slice none 0 0,.int .i64 0] 26 (0,0))):=hRW
  have HBW:Hid (Below C w W'):=hBW
  have HCW:Hid (Cur W' C):=hCW
  clear hPW hFW hRW hBW hCW
  dsimp only[onlyN]
  simp only[Act.put,Exit.then,Exit.inBlock,List.setIfInBounds_toArray,List.set_cons_succ,List.set_cons_zero]
  go_at_K
  go_wp2_with fail
  have r0:((W'.setCell ⟨R0,0,none⟩ (.slice (some ⟨g,0,none⟩) n cap)).setCell ⟨R0,1,none⟩ (.int .i64 vals)).cell? ⟨R0,0,none⟩=some (.slice (some ⟨g,0,none⟩) n cap):=by
   rw[World.cell?_setCell_other _ _ _ _ (by simp)]
   exact World.cell?_setCell_same _ _ _ y0
  have r1:((W'.setCell ⟨R0,0,none⟩ (.slice (some ⟨g,0,none⟩) n cap)).setCell ⟨R0,1,none⟩ (.int .i64 vals)).cell? ⟨R0,1,none⟩=some (.int .i64 vals) :=
   World.cell?_setCell_same _ _ _ ((World.cell?_setCell_other _ _ _ _ (by simp)).trans y1)
  refine bodyPost_ret (v := .agg #[.slice (some ⟨g,0,none⟩) n cap,.int .i64 vals]) (by simp[results,Tryz.results38,go_sem,r0,r1]) rfl ?_
  exact draw_end (lo:=C+1) (FB:=FB) (by omega) (by omega) hn0 hn9 HPW.out HRW.out HBW.out HCW.out
 ·have hPW:=HP5.out
  have hFW:=FB5.out
  have hRW:=X5.out
  have hBW:=B5.out
  have hCW:=D5.out.cur
  have e0:w5.cell? ⟨FB,0,none⟩=some (.slice (some ⟨g,0,none⟩) n cap):=by simp[World.cell?,hFW]
  have e1:w5.cell? ⟨FB,1,none⟩=some (.int .i64 vals):=by simp[World.cell?,hFW]
  have y0:w5.cell? ⟨R0,0,none⟩=some (.slice none 0 0):=by simp[World.cell?,hRW]
  have y1:w5.cell? ⟨R0,1,none⟩=some (.int .i64 0):=by simp[World.cell?,hRW]
  have z0:w5.frozen? ⟨R0,0,none⟩=false:=by simp[World.frozen?,hRW]
  have z1:w5.frozen? ⟨R0,1,none⟩=false:=by simp[World.frozen?,hRW]
  have HPW:Hid (ProgOk (C+1) g n cap w5):=hPW
  have HRW:Hid (w5.heap[R0]? = some (.cells #[.slice none 0 0,.int .i64 0] 26 (0,0))):=hRW
  have HBW:Hid (Below C w w5):=hBW
  have HCW:Hid (Cur w5 C):=hCW
  clear hPW hFW hRW hBW hCW
  go_wp2_with fail
  have r0:((w5.setCell ⟨R0,0,none⟩ (.slice (some ⟨g,0,none⟩) n cap)).setCell ⟨R0,1,none⟩ (.int .i64 vals)).cell? ⟨R0,0,none⟩=some (.slice (some ⟨g,0,none⟩) n cap):=by
   rw[World.cell?_setCell_other _ _ _ _ (by simp)]
   exact World.cell?_setCell_same _ _ _ y0
  have r1:((w5.setCell ⟨R0,0,none⟩ (.slice (some ⟨g,0,none⟩) n cap)).setCell ⟨R0,1,none⟩ (.int .i64 vals)).cell? ⟨R0,1,none⟩=some (.int .i64 vals) :=
   World.cell?_setCell_same _ _ _ ((World.cell?_setCell_other _ _ _ _ (by simp)).trans y1)
  refine bodyPost_ret (v := .agg #[.slice (some ⟨g,0,none⟩) n cap,.int .i64 vals]) (by simp[results,Tryz.results38,go_sem,r0,r1]) rfl ?_
  exact draw_end (lo:=C+1) (FB:=FB) (by omega) (by omega) hn0 hn9 HPW.out HRW.out HBW.out HCW.out
theorem Keeps.fr {w w':World}{C:Nat}(h:Fr C w w'):Keeps (C+1) w w':=fun p v hp hc=>by
 rw[h.cell (World.block_lt_of_cell? w _ hc) (by omega)]
 exact hc
theorem FnAtLo.fr {w w':World}{C:Nat}{v:Value}{F:FnD}(h:FnAtLo (C+1) w v F)(hf:Fr C w w'):FnAtLo (C+1) w' v F:=h.keep (Keeps.fr hf)
theorem FnAtLo.out {lo:Nat}{w:World}{v:Value}{F:FnD}(h:FnAtLo lo w v F){n:Nat}(hn:F.blocks.length=n):∃ba bcap vals,v = .agg #[.slice ba n bcap,.int .i64 vals]:=by
 obtain⟨bv,rfl,a,cap,rfl,_⟩:=h
 exact⟨a,cap,F.values,by rw[hn]⟩
def GivesOne (w:World)(e:Ending)(w':World):Prop := ∃(v:Value) (F:FnD),e = .returned v∧FnAtLo w.heap.size w' v F∧0<F.blocks.length∧F.blocks.length≤900∧Below w.heap.size w w'
theorem box_end {w w5:World}{R:Nat}{ba:Option Addr}{n bcap:Nat}{vals:Int}{F:FnD}(hR:R=w.heap.size)(x:w5.heap[R]? = some (.cells #[.slice none 0 0,.int .i64 0] 26 (0,0)))(hF:FnAtLo (R+1) w5 (.agg #[.slice ba n bcap,.int .i64 vals]) F)(hB:Below w.heap.size w w5) :
  ((w5.setCell ⟨R,0,none⟩ (.slice ba n bcap)).setCell ⟨R,1,none⟩ (.int .i64 vals)).cell? ⟨R,0,none⟩=some (.slice ba n bcap)∧((w5.setCell ⟨R,0,none⟩ (.slice ba n bcap)).setCell ⟨R,1,none⟩ (.int .i64 vals)).cell? ⟨R,1,none⟩=some (.int .i64 vals) ∧
  FnAtLo w.heap.size ((w5.setCell ⟨R,0,none⟩ (.slice ba n bcap)).setCell ⟨R,1,none⟩ (.int .i64 vals)) (.agg #[.slice ba n bcap,.int .i64 vals]) F∧Below w.heap.size w ((w5.setCell ⟨R,0,none⟩ (.slice ba n bcap)).setCell ⟨R,1,none⟩ (.int .i64 vals)):=by
 have y0:w5.cell? ⟨R,0,none⟩=some (.slice none 0 0):=by simp[World.cell?,x]
 have y1:w5.cell? ⟨R,1,none⟩=some (.int .i64 0):=by simp[World.cell?,x]
 refine⟨?_,World.cell?_setCell_same _ _ _ ((World.cell?_setCell_other _ _ _ _ (by simp)).trans y1),?_,?_⟩
 ·rw[World.cell?_setCell_other _ _ _ _ (by simp)]
  exact World.cell?_setCell_same _ _ _ y0
 ·exact FnAtLo.low (by omega) (hF.keep ((Keeps.setCell _ _ _ _ _ (by omega)).trans (Keeps.setCell _ _ _ _ _ (by omega))))
 ·exact(hB.setCell (p:=⟨R,0,none⟩) (by show w.heap.size≤R;omega) _).setCell (p:=⟨R,1,none⟩) (by show w.heap.size≤R;omega) _
set_option maxRecDepth 100000 in
set_option maxHeartbeats 16000000 in
theorem DrawShapeOk_any (a:Option Addr)(len cap:Nat)(zs:List Int)(w:World)(hr:IsRow .u8 w a len cap zs) :
  Calls Tryz.prog 9 #[.slice a len cap] w fun e w'=>GivesOne w e w':=by
 have HR:Hid (IsRow .u8 w a len cap zs):=hr
 clear hr
 go_enter Tryz.func9,Tryz.ntmps9
 go_wp2_with fail
 obtain⟨wA,hwA⟩:∃W,w.alloc (.cells #[.slice none 0 0,.int .i64 0] 26)=W:=⟨_,rfl⟩
 have bA:Below w.heap.size w wA:=by rw[←hwA];exact Bel.alloc _ _
 have xA:wA.heap[w.heap.size]? = some (.cells #[.slice none 0 0,.int .i64 0] 26 (0,0)):=by rw[←hwA];exact World.alloc_heap_new _ _
 have sA:wA.heap.size=w.heap.size+1:=by rw[←hwA];simp
 try rw[hwA]
 clear hwA
 obtain⟨R,hR⟩:∃x,w.heap.size=x:=⟨_,rfl⟩
 rw[hR] at xA sA ⊢
 refine(new_any a len cap zs _ (HR.out.keep (p:=w.heap.size) (fun x e c=>Nat.ne_of_lt (HR.out.lt x e c)) (Fr.ofBelow bA))).mono ?_
 rintro e w1 ⟨rfl,b1,hc1,_⟩
 rw[sA] at b1 hc1 ⊢
 have x1:w1.heap[R]? = some (.cells #[.slice none 0 0,.int .i64 0] 26 (0,0)):=(b1.block _ (by omega)).trans xA
 have X1:Hid (w1.heap[R]? = some (.cells #[.slice none 0 0,.int .i64 0] 26 (0,0))):=x1
 have B1:Hid (Below w.heap.size w w1):=bA.trans (b1.mono (by omega))
 have C1:Hid (Cur w1 (R+1)):=hc1
 clear b1 hc1 x1 xA bA
 go_wp2_with fail
 refine(draw_any (R+1) _ C1.out).mono ?_
 rintro e w2 ⟨v,F,rfl,hF,hn0,hn9,b2,_⟩
 obtain⟨n,hn⟩:∃n,F.blocks.length=n:=⟨_,rfl⟩
 have HN:Hid (F.blocks.length=n):=hn
 obtain⟨ba,bcap,vals,rfl⟩:=hF.out hn
 rw[hn] at hn0 hn9
 have x2:w2.heap[R]? = some (.cells #[.slice none 0 0,.int .i64 0] 26 (0,0)):=(b2.block _ (by omega)).trans X1.out
 have B2:Below w.heap.size w w2:=B1.out.trans (b2.mono (by omega))
 have y0:w2.cell? ⟨R,0,none⟩=some (.slice none 0 0):=by simp[World.cell?,x2]
 have y1:w2.cell? ⟨R,1,none⟩=some (.int .i64 0):=by simp[World.cell?,x2]
 have u0:w2.frozen? ⟨R,0,none⟩=false:=by simp[World.frozen?,x2]
 have u1:w2.frozen? ⟨R,1,none⟩=false:=by simp[World.frozen?,x2]
 obtain⟨r0,r1,hF6,hB6⟩:=box_end hR.symm x2 (FnAtLo.low (by omega) hF) B2
 have HF6:Hid (FnAtLo w.heap.size ((w2.setCell ⟨R,0,none⟩ (.slice ba n bcap)).setCell ⟨R,1,none⟩ (.int .i64 vals)) (.agg #[.slice ba n bcap,.int .i64 vals]) F):=hF6
 have HB6:Hid (Below w.heap.size w ((w2.setCell ⟨R,0,none⟩ (.slice ba n bcap)).setCell ⟨R,1,none⟩ (.int .i64 vals))):=hB6
 clear hF6 hB6 hF x2 B2 b2 hn
 go_wp2_with fail
 refine bodyPost_ret (v := .agg #[.slice ba n bcap,.int .i64 vals]) (by simp[results,Tryz.results9,go_sem,r0,r1]) rfl ?_
 exact⟨_,F,rfl,HF6.out,by rw[HN.out];exact hn0,by rw[HN.out];exact hn9,HB6.out⟩
end Go.Proofs.YtfnilamkapabkaaGreatDoor
