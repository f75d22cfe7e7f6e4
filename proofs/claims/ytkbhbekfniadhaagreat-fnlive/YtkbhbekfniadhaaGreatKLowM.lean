/- The moves that a block needs for the phis of another one, by the model. -/
import Derived.Test.YtkbhbekfniadhaaGreatTkK
import Derived.Test.YtkbhbekfniadhaaGreatTk0
import Derived.Test.YtkbhbekfniadhaaGreatKMv
import Derived.Test.YtkbhbekfniadhaaGreatKMvS
import Derived.Test.YtkbhbekfniadhaaGreatKL2Co
set_option maxRecDepth 100000
set_option maxHeartbeats 4000000
namespace Go.Proofs.YtkbhbekfniadhaaGreat
open Go.ChangeShapes Go.WideShapes Go.ChangeAt Go.RowKit
set_option linter.unusedVariables false
theorem add_move (lo:Nat)(v:Value)(l:List jy)(d s:Int)(w:World)(hv:jd w lo v l)(hlo:lo≤w.heap.size)(hn:l.length≤1000000) :
  ∃v' w',(∀ty,(Builtin.append_ #[158,158] ty #[v,sq w.heap.size 0 1 1]).run Tryz.prog (w.alloc (.cells #[vi d,vi s] 162))=.ok v' w')∧jd w' lo v' (l ++ [⟨d,s⟩])∧Below lo w w'∧w.heap.size≤w'.heap.size∧(∀g,g<w.heap.size→v.ownBlock≠some g→w'.heap[g]?=w.heap[g]?∧v'.ownBlock≠some g):=by
 obtain⟨i0,hi,hz0,hz1,hz2⟩:=info_parts adl;have ha:=Bel.alloc w (.cells #[vi d,vi s] 162);have r:(w.alloc (.cells #[vi d,vi s] 162)).ownsRow lo 162 2 v l.length (moveC l):=World.ownsRow.alloc hv _;have B:2000000≤maxLen:=by decide
 have key:=fun ty=>run_append_own_at (P:=Tryz.prog) (w.alloc (.cells #[vi d,vi s] 162)) lo 158 ty 162 i0 (.agg #[vi 0,vi 0]) 2 16 Tryz.underlying158 hi hz0 hz1 hz2 rfl (by decide) v l.length (moveC l) r (Z w.heap.size 0) 1 1 [vi d,vi s] rfl (Q4 w [vi d,vi s] _) (by simp[Value.oneCell']) (by omega) (by omega) (by have:=ha.size;omega)
 obtain⟨v',w',hrun,ho,hgr,_,hob⟩:=key 158;have t:jd w' lo v' (l ++ [⟨d,s⟩]):=by
  unfold jd;rw[List.length_append,List.length_singleton,ZU];exact ho
 have hb:=xg r (by have:=ha.size;omega) hgr;refine⟨v',w',fun ty=>hrun,t,(ha.mono hlo).trans hb,Nat.le_trans ha.size hb.size,fun g hg h=>⟨?_,?_⟩⟩
 ·exact(hgr.block g (Nat.lt_of_lt_of_le hg ha.size) (fun e=>h e.symm)).trans (ha.block g hg)
 ·rcases hob with e | e
  ·rw[e];exact h
  ·rw[e];intro e2;simp at e2;omega
theorem jd.formM {w:World}{lo:Nat}{v:Value}{l:List jy}(h:jd w lo v l):∃a c,v=.slice a l.length c:=by
 rcases h.2 with ⟨rfl,h0⟩ | ⟨g,cap,cur,rfl,_⟩
 ·exact⟨none,0,by rw[h0]⟩
 ·exact⟨_,cap,rfl⟩
theorem low_len {b:Nat}{ps:List yy}(h:∀p∈ps,p.arms.length≤16):(j5 b ps).length≤ps.length*16:=by
 induction ps with
 | nil=>simp[j5]
 | cons p ps ih=>
  have e:j5 b (p::ps)=jF p.d b p.arms ++ j5 b ps:=by simp[j5]
  have h1:=ih (fun q hq=>h q (List.mem_cons_of_mem _ hq));have h2:=h p List.mem_cons_self;have h3:(jF p.d b p.arms).length≤p.arms.length:=by
   unfold jF;rw[List.length_map];exact List.length_filter_le _ _
  rw[e,List.length_append,List.length_cons];omega
theorem XV (k:Nat):vi ((k:Int)+1)=vi ((k+1:Nat):Int):=by simp
theorem XW {k m:Nat}(h:k<m):m-(intOf (vi ((k:Int)+1))).toNat<m-(intOf (vi (k:Int))).toNat:=by simp[intOf];omega
structure MvSt (wA:World)(S1:Nat)(l:List jy)(ov:Value)(wr:World):Prop where
 own:jd wr S1 ov l
 bel:Below S1 wA wr
 le:S1≤wr.heap.size
theorem MvSt.keep {wA wr wr':World}{S1:Nat}{l:List jy}{ov:Value}(h:MvSt wA S1 l ov wr)(hb:Below wr.heap.size wr wr'):MvSt wA S1 l ov wr' :=
 ⟨y8 h.own hb,h.bel.trans (hb.mono h.le),Nat.le_trans h.le hb.size⟩
def OutR (wA:World)(S1 b np:Nat)(ps:List yy)(ov iv:Value)(wr:World):Prop := ∃(k:Nat) (va:Option Addr) (vn vc:Nat),k≤np∧iv=vi k∧ov=.slice va vn vc∧MvSt wA S1 (j5 b (ps.take k)) (.slice va vn vc) wr
def InR2 (wA:World)(S1 b P an:Nat)(L0:List jy)(d:Int)(ar:List jy)(av:Value)(ov iv:Value)(wr:World):Prop := ∃(j:Nat) (va:Option Addr) (vn vc:Nat),j≤an∧iv=vi j∧ov=.slice va vn vc∧MvSt wA S1 (L0 ++ jF d b (ar.take j)) (.slice va vn vc) wr∧wr.heap[P]?=some (.cells #[vi d,av] 107 (0,0))∧(Value.slice va vn vc).ownBlock≠some P
theorem adk (v:Value)(F:FnD)(b tb:Nat)(x:jc)(w:World)(hF:kJ w v F)(hx:F.blocks[tb]?=some x)(h24:x.phis.length≤24)(h16:∀p∈x.phis,p.arms.length≤16) :
  Calls Tryz.prog 110 #[v,vi (b:Int),vi (tb:Int)] w fun e w'=>abt w (j5 b x.phis) e w':=by
 have HF:Hid (kJ w v F):=hF;obtain⟨n,HN⟩:∃n,Hid (F.blocks.length=n):=⟨_,rfl⟩;obtain⟨vals,HV⟩:∃x,Hid (F.values=x):=⟨_,rfl⟩;obtain⟨ba,bcap,rfl⟩:=hF.out HN.out HV.out;have HX:Hid (F.blocks[tb]?=some x):=hx;have aj:Hid (∀p∈x.phis,p.arms.length≤16):=h16;have aR:(tb:Int)<(n:Int):=Int.ofNat_lt.2 (by rw[←HN.out];exact(List.getElem?_eq_some_iff.1 hx).1);obtain⟨bb,boff,hba,hblk⟩:∃bb off,ba=some (Z bb off)∧qH 0 w bb (off+tb*6) x:=by
  obtain⟨bv,he,a0,cap0,hbv,_,hc⟩:=hF;have e1:(.slice ba n bcap:Value)=bv:=by simp at he;exact he.1
  rw[hbv] at e1;simp at e1;obtain⟨b,off,hb,_,hel⟩:=hc (by have:=(List.getElem?_eq_some_iff.1 hx).1;omega);exact⟨b,off,e1.1.trans hb,hel tb x hx⟩
 subst hba;obtain⟨pv,lv,o0,_,_,_,_,_,hps,_⟩:=hblk;obtain⟨np,HNP⟩:∃q,Hid (x.phis.length=q):=⟨_,rfl⟩;obtain⟨pa,pcap,rfl,hpm,hpc⟩:=hps;rw[HNP.out] at o0 hpm hpc h24;have aH:Hid (0<np→∃b off,pa=some (Z b off)∧0≤b∧∀i p,x.phis[i]?=some p→yz 0 w b (off+i*2) p):=hpc;clear hpc hx hF h16;obtain⟨S,HS⟩:∃S,Hid (w.heap.size=S):=⟨_,rfl⟩;obtain⟨wA,hwA⟩:∃W,w.alloc (.cells #[sq bb boff n bcap,vi vals] 26)=W:=⟨_,rfl⟩;have BA:Hid (Below S w wA):=by show Below _ _ _;rw[←hwA,←HS.out];exact Bel.alloc _ _
 have M:Hid (wA.heap.size=S+1):=by show _=_;rw[←hwA,←HS.out];simp
 have a0:wA.cell? (Z S 0)=some (sq bb boff n bcap):=by rw[←hwA,←HS.out];simp[go_sem]
 have az:Hid (wA.cell? (Z S 0)=some (sq bb boff n bcap)):=a0;have ax:∀k,(j5 b (x.phis.take k)).length≤24*16:=fun k=>by
  have h1:=low_len (b:=b) (ps:=x.phis.take k) (fun p hp=>aj.out p (List.mem_of_mem_take hp));have h2:(x.phis.take k).length≤24:=by rw[List.length_take,HNP.out];omega
  omega
 have aJ:Hid (∀k,(j5 b (x.phis.take k)).length≤24*16):=ax;have aF:Hid (w.cell? (Z bb (boff+tb*6))=some (.slice pa np pcap)):=o0;clear ax;go_enter Tryz.func110,Tryz.ntmps110
 go_wp2_with fail
 obtain⟨w1,hw1⟩:∃W,wA.alloc (.cells #[] 162)=W:=⟨_,rfl⟩;have aD:Hid (MvSt wA (S+1) [] (sq (S+1) 0 0 0) w1):=by
  have hb:Below wA.heap.size wA w1:=by rw[←hw1];exact Bel.alloc _ _
  rw[M.out] at hb;refine⟨?_,hb,by have:=hb.size;have:=M.out;omega⟩;refine⟨by simp[moveC],.inr ⟨S+1,0,#[],rfl,Nat.le_refl _,?_,Nat.le_refl _,Nat.zero_le _,rfl,rfl⟩⟩;rw[←hw1,←M.out];exact World.alloc_heap_new wA _
 try rw[HS.out]
 try rw[hwA]
 try rw[M.out]
 try rw[hw1]
 clear hw1 hwA a0 o0;go_loopw [7,8] (fun ov iv wr=>OutR wA (S+1) b np x.phis ov iv wr) (fun _ iv _=>np-(intOf iv).toNat)
 case atStart=>exact⟨0,_,_,_,Nat.zero_le _,rfl,rfl,by simpa [j5] using aD.out⟩
 case round=>
  obtain⟨k,va,vn,vc,hk,rfl,rfl,hst⟩:=hrel;have J:Hid (MvSt wA (S+1) (j5 b (x.phis.take k)) (.slice va vn vc) wr):=hst;have t:Hid (Below w.heap.size w wr):=by rw[HS.out];exact BA.out.trans (hst.bel.mono (Nat.le_succ _))
  have a0:=(hst.bel.cell (p:=(Z S 0)) (Nat.lt_succ_self _)).trans az.out;have o0:=Bel.keeps t.out aF.out;clear hst;by_cases aO:(k:Int)<(np:Int)
  ·have I:Hid (k<np):=Int.ofNat_lt.1 aO;obtain⟨p,HPP⟩:∃p,Hid (x.phis[k]?=some p):=⟨x.phis[k]'(by rw[HNP.out];exact I.out),List.getElem?_eq_getElem _⟩;obtain⟨pb,poff,hpa,_,hel⟩:=aH.out (Nat.lt_of_le_of_lt (Nat.zero_le _) I.out);subst hpa;obtain⟨p0,av,p1,aa,acap,rfl,ham,hac⟩:=hel k p HPP.out;obtain⟨d,ar⟩:=p;dsimp only at p0 p1 ham hac;obtain⟨an,HAN⟩:∃q,Hid (ar.length=q):=⟨_,rfl⟩;rw[HAN.out] at p1 ham hac;have aA:Hid (0<an→∃b off,aa=some (Z b off)∧0≤b∧∀i z,ar[i]?=some z→qq w b (off+i*2) z):=hac;replace p0:=Bel.keeps t.out p0;replace p1:=Bel.keeps t.out p1;have aP:wrap64 ((k:Int)+1)=(k:Int)+1:=by unfold wrap64;omega
   clear hel hac;go_wp2_with fail
   obtain⟨P,HP⟩:∃P,Hid (wr.heap.size=P):=⟨_,rfl⟩;obtain⟨wP,hwP⟩:∃W,wr.alloc (.cells #[vi d,.slice aa an acap] 107)=W:=⟨_,rfl⟩;have BP:Below wr.heap.size wr wP:=by rw[←hwP];exact Bel.alloc _ _
   have aG:Hid (wP.heap[P]?=some (.cells #[vi d,.slice aa an acap] 107 (0,0))):=by show _=_;rw[←hwP,←HP.out];exact World.alloc_heap_new wr _
   have G:Hid (MvSt wA (S+1) (j5 b (x.phis.take k)) (.slice va vn vc) wP):=J.out.keep BP;have aE:Hid ((Value.slice va vn vc).ownBlock≠some P):=fun e=>by
    have h9:P<wr.heap.size:=(World.ownsRow.lt J.out.own P e).2;have:=HP.out;omega
   have aQ:Hid (Below w.heap.size w wP):=t.out.trans (BP.mono t.out.size);try rw[hwP]
   try rw[HP.out]
   clear hwP BP a0 o0 p0 p1 J;obtain⟨L0,HL0⟩:∃L,Hid (j5 b (x.phis.take k)=L):=⟨_,rfl⟩;rw[HL0.out] at G;have X:Hid (L0.length≤24*16):=by show _≤_;rw[←HL0.out];exact aJ.out k
   have U:Hid (ar.length≤16):=aj.out _ (List.mem_of_getElem? HPP.out);go_loopw [7,10] (fun ov iv wr=>InR2 wA (S+1) b P an L0 d ar (.slice aa an acap) ov iv wr) (fun _ iv _=>an-(intOf iv).toNat)
   case atStart=>exact⟨0,_,_,_,Nat.zero_le _,rfl,rfl,by simpa [jF] using G.out,aG.out,aE.out⟩
   case round=>
    obtain⟨j,ua,un,uc,hj,rfl,rfl,hst,hpb,hne⟩:=hrel;have ah:Hid (MvSt wA (S+1) (L0 ++ jF d b (ar.take j)) (.slice ua un uc) wr):=hst;have af:Hid (wr.heap[P]?=some (.cells #[vi d,.slice aa an acap] 107 (0,0))):=hpb;have am:Hid ((Value.slice ua un uc).ownBlock≠some P):=hne;have q0:wr.cell? (Z P 0)=some (vi d):=by simp[World.cell?,hpb]
    have q1:wr.cell? (Z P 1)=some (.slice aa an acap):=by simp[World.cell?,hpb]
    have ak:Hid (Below w.heap.size w wr):=by show Below _ _ _;rw[HS.out];exact BA.out.trans (hst.bel.mono (Nat.le_succ _))
    clear hst hpb hne;by_cases aN:(j:Int)<(an:Int)
    ·have B:Hid (j<an):=Int.ofNat_lt.1 aN;obtain⟨z,HZ⟩:∃z,Hid (ar[j]?=some z):=⟨ar[j]'(by rw[HAN.out];exact B.out),List.getElem?_eq_getElem _⟩;obtain⟨ab,aoff,haa,_,hel⟩:=aA.out (Nat.lt_of_le_of_lt (Nat.zero_le _) B.out);subst haa;obtain⟨z0,z1⟩:=hel j z HZ.out;obtain⟨fr,sv⟩:=z;dsimp only at z0 z1;have au:Hid (w.cell? (Z ab (aoff+j*2+1))=some (vi sv)):=z1;replace z0:=Bel.keeps ak.out z0;replace z1:=Bel.keeps ak.out z1;have ay:wrap64 ((j:Int)+1)=(j:Int)+1:=by unfold wrap64;omega
     have ao:Hid (jF d b (ar.take (j+1))=jF d b (ar.take j) ++ (if fr=(b:Int) then [⟨d,sv⟩] else [])):=ab8 HZ.out;clear hel;by_cases O:fr=(b:Int)
     ·have aM:((b:Int) == (b:Int))=true:=by simp
      subst O;go_wp2_with fail
      refine wp_region_held_drew (S:=fun w'=>w'.cell? (Z P 0)=some (vi d)∧w'.cell? (Z P 1)=some (sq ab aoff an acap)∧w'.cell? (Z ab (aoff+j*2+1))=some (vi sv)) (by kernel_rfl) ⟨q0,q1,z1⟩ (fun hHeld=>?_);obtain⟨u1,hu1⟩:∃W,wr.drew=W:=⟨_,rfl⟩;have hdr:Below wr.heap.size wr u1:=by rw[←hu1];exact(Below.refl _ wr).drew
      have K:Hid (MvSt wA (S+1) (L0 ++ jF d (↑b:Nat) (ar.take j)) (.slice ua un uc) u1):=ah.out.keep hdr;have aq:Hid (u1.heap[P]?=some (.cells #[vi d,sq ab aoff an acap] 107 (0,0))):=(hdr.block P (aI af.out).1).trans af.out;rw[hu1] at hHeld ⊢;clear hu1 hdr q0 q1 z0 z1;have aC:Hid ((L0 ++ jF d b (ar.take j)).length≤1000000):=by
       have h1:(jF d b (ar.take j)).length≤ar.length:=by
        unfold jF;rw[List.length_map];exact Nat.le_trans (List.length_filter_le _ _) (by rw[List.length_take];omega)
       have h2:=X.out;have h3:=U.out;show _≤_;rw[List.length_append];omega
      obtain⟨v',w5,hrun,ho5,hb5,hs5,hk5⟩:=add_move (S+1) (.slice ua un uc) (L0 ++ jF d b (ar.take j)) d sv u1 K.out.own K.out.le aC.out;have ap:Hid (jd w5 (S+1) v' (L0 ++ jF d b (ar.take j) ++ [⟨d,sv⟩])):=ho5;have V:Hid (Below (S+1) wA w5):=K.out.bel.trans hb5;have ad:=hk5 P (aI aq.out).1 am.out;have r:Hid (w5.heap[P]?=some (.cells #[vi d,sq ab aoff an acap] 107 (0,0))):=ad.1.trans aq.out;have ae:Hid (v'.ownBlock≠some P):=ad.2;have ac:Hid (S+1≤w5.heap.size):=Nat.le_trans K.out.le hs5;have ag:Hid (∀ty,(Builtin.append_ #[158,158] ty #[.slice ua un uc,sq u1.heap.size 0 1 1]).run Tryz.prog (u1.alloc (.cells #[vi d,vi sv] 162))=.ok v' w5):=hrun;clear hrun ho5 hb5 hs5 hk5 ad;refine tkA 0 ⟨some 47,.move (.tmp 7),158,"l10_plain.go:24",#[],none⟩ ?_ (fun w h=>?_) ?_;rotate_left
      ·(try dsimp only at h);go_simp;(try with_reducible rfl)
      try simp only[Act.put,sT,sZ,sS]
      refine tkA 1 ⟨some 48,.fieldAddr 107 (.tmp 9) 0,0,"l10_plain.go:24",#[],none⟩ ?_ (fun w h=>?_) ?_;rotate_left
      ·(try dsimp only at h);go_simp;(try with_reducible rfl)
      try simp only[Act.put,sT,sZ,sS]
      refine tkA 2 ⟨some 49,.load 3 (.tmp 48),3,"l10_plain.go:24",#[⟨1,.data⟩],none⟩ ?_ (fun w h=>?_) ?_;rotate_left
      ·(try dsimp only at h);go_simp;(try with_reducible rfl)
      try simp only[Act.put,sT,sZ,sS]
      refine tkA 3 ⟨some 50,.fieldAddr 107 (.tmp 9) 1,0,"l10_plain.go:24",#[],none⟩ ?_ (fun w h=>?_) ?_;rotate_left
      ·(try dsimp only at h);go_simp;(try with_reducible rfl)
      try simp only[Act.put,sT,sZ,sS]
      refine tkA 4 ⟨some 51,.load 105 (.tmp 50),105,"l10_plain.go:24",#[⟨3,.data⟩],none⟩ ?_ (fun w h=>?_) ?_;rotate_left
      ·(try dsimp only at h);go_simp;(try with_reducible rfl)
      try simp only[Act.put,sT,sZ,sS]
      refine tkA 5 ⟨some 52,.move (.tmp 10),3,"l10_plain.go:24",#[],none⟩ ?_ (fun w h=>?_) ?_;rotate_left
      ·(try dsimp only at h);go_simp;(try with_reducible rfl)
      try simp only[Act.put,sT,sZ,sS]
      refine tkA 6 ⟨some 53,.indexAddr 105 (.tmp 51) (.tmp 52),0,"l10_plain.go:24",#[⟨4,.data⟩,⟨5,.data⟩],none⟩ ?_ (fun w h=>?_) ?_;rotate_left
      ·(try dsimp only at h);go_simp;(try with_reducible rfl)
      try simp only[Act.put,sT,sZ,sS]
      refine tkA 7 ⟨some 54,.fieldAddr 143 (.tmp 53) 1,0,"l10_plain.go:24",#[⟨6,.data⟩],none⟩ ?_ (fun w h=>?_) ?_;rotate_left
      ·(try dsimp only at h);go_simp;(try with_reducible rfl)
      try simp only[Act.put,sT,sZ,sS]
      refine tkA 8 ⟨some 55,.load 3 (.tmp 54),3,"l10_plain.go:24",#[⟨7,.data⟩],none⟩ ?_ (fun w h=>?_) ?_;rotate_left
      ·(try dsimp only at h);go_simp;(try with_reducible rfl)
      try simp only[Act.put,sT,sZ,sS]
      refine tkA 9 ⟨some 56,.build 162 #[(0,.tmp 49),(1,.tmp 55)],162,"l10_plain.go:24",#[⟨2,.data⟩,⟨8,.data⟩],none⟩ ?_ (fun w h=>?_) ?_;rotate_left
      ·(try dsimp only at h);go_simp;(try with_reducible rfl)
      try simp only[Act.put,sT,sZ,sS]
      refine jg (i:=10) (o:=⟨some 57,.buildSlice 158 1 #[(0,.tmp 56)],158,"l10_plain.go:24",#[⟨9,.data⟩],none⟩) rfl rfl (by kernel_rfl) (fun K9 H=>?_);have ai:Below u1.heap.size u1 (u1.alloc (.cells #[vi d,vi sv] 162)):=Bel.alloc _ _;have aw:=And.intro (Bel.keeps ai hHeld.1) (And.intro (Bel.keeps ai hHeld.2.1) (Bel.keeps ai hHeld.2.2));refine jC (v:=sq u1.heap.size 0 1 1) (w':=u1.alloc (.cells #[vi d,vi sv] 162)) (by simp[execOp,Instr.buildSlice,go_sem]) (H _ _ ⟨aw,?_⟩)
      (try simp only[Act.put,sT,sZ,sS])
      clear H hHeld;refine jg (i:=11) (o:=⟨some 58,.call ⟨.builtin .append,#[.tmp 47,.tmp 57],#[158,158]⟩,158,"l10_plain.go:24",#[⟨0,.data⟩,⟨10,.data⟩],none⟩) rfl rfl (by kernel_rfl) (fun K9 H=>?_);refine jC (zZ (p:=.slice ua un uc) (q:=sq u1.heap.size 0 1 1) rfl (by rfl) (by rfl) (ag.out _)) (H _ _ ⟨?_,?_⟩)
      ·exact⟨by simp[World.cell?,r.out],by simp[World.cell?,r.out],Bel.keeps (show Below w.heap.size w w5 by rw[HS.out];exact BA.out.trans (V.out.mono (Nat.le_succ _))) au.out⟩
      (try simp only[Act.put,sT,sZ,sS])
      clear H aw;have hHeld:w5.cell? (Z P 0)=some (vi d)∧w5.cell? (Z P 1)=some (sq ab aoff an acap)∧w5.cell? (Z ab (aoff+j*2+1))=some (vi sv):=⟨by simp[World.cell?,r.out],by simp[World.cell?,r.out],Bel.keeps (show Below w.heap.size w w5 by rw[HS.out];exact BA.out.trans (V.out.mono (Nat.le_succ _))) au.out⟩;refine tkA 12 ⟨some 7,.assign (.tmp 58),158,"l10_plain.go:24",#[⟨11,.data⟩,⟨11,.chain⟩,⟨0,.phase⟩,⟨1,.phase⟩,⟨2,.phase⟩,⟨3,.phase⟩,⟨4,.phase⟩,⟨5,.phase⟩,⟨6,.phase⟩,⟨7,.phase⟩,⟨8,.phase⟩,⟨9,.phase⟩,⟨10,.phase⟩,⟨11,.phase⟩],none⟩ ?_ (fun w h=>?_) ?_;rotate_left
      ·(try dsimp only at h);go_simp;(try with_reducible rfl)
      try simp only[Act.put,sT,sZ,sS]
      refine wpAnyH_done (by kernel_rfl) ?_ _;try simp only[Exit.then]
      first | go_at_K | skip
      go_wp2_with fail
      try rw[ay]
      go_roundw
      case rel=>
       obtain⟨ga,gc,hgv⟩:=ap.out.formM;subst hgv;exact⟨j+1,ga,_,gc,B.out,XV j,rfl,⟨by rw[ao.out,if_pos trivial,←List.append_assoc];exact ap.out,V.out,ac.out⟩,r.out,ae.out⟩
      case measure=>exact XW B.out
     ·have aM:(fr == (b:Int))=false:=by simpa using O
      have aB:Hid (¬fr=(b:Int)):=O;clear O;go_wp2_with fail
      try rw[ay]
      go_roundw
      case rel=>exact⟨j+1,ua,un,uc,B.out,XV j,rfl,by rw[ao.out,if_neg aB.out,List.append_nil];exact ah.out,af.out,am.out⟩
      case measure=>exact XW B.out
    ·have aK:j=an:=by omega
     subst aK;go_wp2_with fail
     try rw[aP]
     go_roundw
     case rel=>
      refine⟨k+1,ua,un,uc,I.out,XV k,rfl,?_⟩;have h9:=ah.out;rw[List.take_of_length_le (by rw[HAN.out];exact Nat.le_refl _)] at h9;rw[ab9 HPP.out,HL0.out];exact h9
     case measure=>exact XW I.out
  ·have aL:k=np:=by omega
   subst aL;go_wp2_with fail
   go_ret;have h9:=J.out.own;rw[List.take_of_length_le (by rw[HNP.out];exact Nat.le_refl _)] at h9;exact⟨_,rfl,by rw[HS.out];exact Qv h9 (Nat.le_succ _),t.out⟩
end Go.Proofs.YtkbhbekfniadhaaGreat
