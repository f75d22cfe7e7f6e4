/- The model's LiveIn and LiveOut. -/
import Derived.Test.YtkbhbekfniadhaaGreatTk0
import Derived.Test.YtkbhbekfniadhaaGreatKLs
set_option maxRecDepth 100000
set_option maxHeartbeats 8000000
namespace Go.Proofs.YtkbhbekfniadhaaGreat
open Go.ChangeShapes Go.WideShapes Go.ChangeAt Go.RowKit Go.Shelf
set_option linter.unusedVariables false
theorem ja.aiD {V:World}{lo:Nat}{sv:Value}{l:List Int}(h:ja V lo sv l){k:Nat}(hk:sv.ownBlock=some k):lo≤k∧∃c,V.heap[k]?=some (.cells c 3 (0,0)):=by
 rcases h.2 with ⟨h0,_⟩ | ⟨g9,c9,cur,hv,h2,h3,_⟩
 ·rw[h0] at hk;simp[Value.ownBlock] at hk
 ·rw[hv] at hk;simp[Value.ownBlock] at hk;subst hk;exact⟨h2,cur,h3⟩
theorem ja.ae2 {W W':World}{lo g:Nat}{sv:Value}{l:List Int}(h:ja W lo sv l)(hg:W.grownBy W' (some g)){cur:Array Value}{z:Nat × Nat}(hb:W.heap[g]?=some (.cells cur 30 z)):ja W' lo sv l:=h.ZO (fun k hk=>hg.block k (by obtain⟨_,c,h9⟩:=h.aiD hk;exact(aI h9).1) (fun e=>by
 cases e
 obtain⟨_,c,h9⟩:=h.aiD hk;rw[hb] at h9
 simp at h9))
def LsUp (w:World)(lo:Nat)(mv:Value)(k:Nat)(ls:Nat→List Int):Prop := ∃hs:List Value,w.ownsRow lo 30 1 mv k hs∧hs.length=k∧(∀i,i<k→ja w lo (hs.getD i (.slice none 0 0)) (ls i))∧∀i j,i<k→j<k→i≠j→af3 (hs.getD i (.slice none 0 0)) (hs.getD j (.slice none 0 0))
theorem aiO {wq wM wa:World}{lo g g' k cap cap':Nat}{ls:Nat→List Int}{hs:List Value}{o:Obj}(hrow:wM.ownsRow lo 30 1 (sq g 0 k cap) k hs)(hl:hs.length=k)(hall:∀i,i<k→ja wq lo (hs.getD i (.slice none 0 0)) (ls i))(hap:∀i j,i<k→j<k→i≠j→af3 (hs.getD i (.slice none 0 0)) (hs.getD j (.slice none 0 0)))
  {v:Value} (hb:Below wq.heap.size wq wM) (hlo:lo≤wq.heap.size) (hnew:ja wM wq.heap.size v (ls k))
  (hown:wa.ownsRow lo 30 1 (sq g' 0 (k+1) cap') (k+1) (hs ++ [v])) (hg:(wM.alloc o).grownBy wa (sq g 0 k cap).ownBlock):LsUp wa lo (sq g' 0 (k+1) cap') (k+1) ls:=by
 obtain⟨cur,hcur⟩:∃cur,wM.heap[g]?=some (.cells cur 30 (0,0)):=by
  rcases hrow.2 with ⟨h0,_⟩ | ⟨g9,c9,cur,hv,_,h9,_⟩
  ·cases h0
  ·cases hv;exact⟨cur,h9⟩
 have h:(wM.alloc o).heap[g]?=some (.cells cur 30 (0,0)):=(Below.heap_alloc wM o g (aI hcur).1).trans hcur;have r:∀i,i<k→(hs ++ [v]).getD i (.slice none 0 0)=hs.getD i (.slice none 0 0):=fun i hi=>by
  simp[List.getD,List.getElem?_append_left (by omega:i<hs.length)]
 have t:(hs ++ [v]).getD k (.slice none 0 0)=v:=by
  subst hl;simp[List.getD]
 refine⟨_,hown,by simp[hl],fun i hi=>?_,fun i j hi hj B=>?_⟩
 ·by_cases e:i=k
  ·subst e;rw[t];exact(((hnew.low hlo).keep (Bel.alloc wM o))).ae2 hg h
  ·rw[r i (by omega)];exact(((hall i (by omega)).keep hb).keep (Bel.alloc wM o)).ae2 hg h
 ·by_cases e:i=k
  ·subst e;rw[t,r j (by omega)];intro b h1 h2;have:=(hnew.aiD h1).1;have:=((hall j (by omega)).lt b h2).2;omega
  ·by_cases e2:j=k
   ·subst e2;rw[t,r i (by omega)];intro b h1 h2;have:=(hnew.aiD h2).1;have:=((hall i (by omega)).lt b h1).2;omega
   ·rw[r i (by omega),r j (by omega)];exact hap i j (by omega) (by omega) B
theorem LsUp.lists {w:World}{lo g n cap:Nat}{ls:Nat→List Int}(h:LsUp w lo (sq g 0 n cap) n ls):KB w lo (sq g 0 n cap) ((List.range n).map ls):=by
 obtain⟨hs,⟨hl,⟨h0,_⟩ | ⟨g',cap',cur,hv,hlo,hg,h1,h2,h3,h4⟩⟩,hk,hr,hap⟩:=h
 ·cases h0
 ·cases hv
  have t:∀i,i<n→cur.getD i (.slice none 0 0)=hs.getD i (.slice none 0 0):=fun i hi=>by
   have B:i<hs.length:=by omega
   have e2:=congrArg (fun m=>m[i]?) h4;rw[List.getElem?_take,if_pos (by omega),List.getElem?_eq_getElem B] at e2;have e3:cur[i]?=some hs[i]:=by simpa using e2
   rw[Array.getD_eq_getD_getElem?,e3];simp[List.getD,List.getElem?_eq_getElem B]
  refine⟨g,cap,cur,by simp,⟨hg,by simp;omega,hlo,fun i hi=>?_,fun i j hi hj H=>?_⟩⟩
  ·have r:i<n:=by simpa using hi
   rw[t i r];have e:((List.range n).map ls).getD i []=ls i:=by simp[List.getD,r]
   rw[e];exact hr i r
  ·have r:i<n:=by simpa using hi
   have G:j<n:=by simpa using hj
   rw[t i r,t j G];exact hap i j r G H
theorem aiI : (Tryz.prog.info? 30).map (fun i=>(i.zero,i.size,i.bytes))=some (some (.slice none 0 0),1,24):=by kernel_rfl
theorem aiv {w:World}{lo:Nat}{v:Value}{l:List Int}(h:ja w lo v l):∃a m c,v=.slice a m c:=by
 rcases h.2 with ⟨h0,_⟩ | ⟨g9,c9,cur,hv,_⟩
 ·exact⟨_,_,_,h0⟩
 ·exact⟨_,_,_,hv⟩
theorem abp.grownL {wM wa:World}{lo lo' g n V k cap g1:Nat}{ls:Nat→List Int}{hs:List Value}{o:Obj}(h:abp wM lo g n V ls)(hg:(wM.alloc o).grownBy wa (sq g1 0 k cap).ownBlock)(hrow:wM.ownsRow lo' 30 1 (sq g1 0 k cap) k hs):abp wa lo g n V ls:=by
 obtain⟨cur,hcur⟩:∃cur,wM.heap[g1]?=some (.cells cur 30 (0,0)):=by
  rcases hrow.2 with ⟨h0,_⟩ | ⟨g9,c9,cur,hv,_,h9,_⟩
  ·cases h0
  ·cases hv;exact⟨cur,h9⟩
 have r:∀b,b<wM.heap.size→b≠g1→wa.heap[b]?=wM.heap[b]?:=fun b hb B=>(hg.block b (by simp;omega) (by simpa [Value.ownBlock] using B)).trans (Below.heap_alloc wM o b hb)
 obtain⟨t,c2,q1,q2,q3⟩:=h;refine⟨t,c2,(r g (aI q1).1 (fun e=>by subst e;rw[hcur] at q1;simp at q1)).trans q1,q2,fun i hi=>?_⟩;obtain⟨g',cap',r1,r2⟩:=q3 i hi;refine⟨g',cap',r1,r2.ZO (fun b hb=>?_)⟩;obtain⟨_,c3,r3⟩:=r2.block hb;exact r b (aI r3).1 (fun e=>by subst e;rw[hcur] at r3;simp at r3)
theorem aiy (v:Value)(F:FnD)(w:World)(hF:kJ w v F) :
  Calls Tryz.prog 12 #[v] w fun e w'=>ah9 w (q7 F) e w':=by
 have HF:Hid (kJ w v F):=hF;obtain⟨n,HN⟩:∃n,Hid (F.blocks.length=n):=⟨_,rfl⟩;obtain⟨vals,HV⟩:∃x,Hid (F.values=x):=⟨_,rfl⟩;obtain⟨ba,bcap,rfl⟩:=hF.out HN.out HV.out;obtain⟨i0,hi,hz0,hz1,hz2⟩:=info_parts aiI;have aj:2000000≤maxLen:=by decide
 clear hF;obtain⟨wA,hwA⟩:∃wA,w.alloc (.cells #[.slice ba n bcap,vi vals] 26)=wA:=⟨_,rfl⟩;have BA:Hid (Below w.heap.size w wA):=by rw[←hwA];exact Bel.alloc _ _
 have O:wA.heap.size=w.heap.size+1:=by rw[←hwA];simp
 have a0:wA.cell? (Z w.heap.size 0)=some (.slice ba n bcap):=by rw[←hwA];simp[go_sem]
 have a1:wA.cell? (Z w.heap.size 1)=some (vi vals):=by rw[←hwA];simp[go_sem]
 obtain⟨wB,hwB⟩:∃wB,wA.alloc (.cells #[] 30)=wB:=⟨_,rfl⟩;have BB:Hid (Below wA.heap.size wA wB):=by rw[←hwB];exact Bel.alloc _ _
 have an:wB.heap.size=w.heap.size+2:=by rw[←hwB];simp;omega
 have OB:Hid (KB wB w.heap.size (sq (w.heap.size+1) 0 0 0) []):=by
  rw[←hwB,←O];exact ah5 rfl (by omega)
 have RB:Hid (wB.ownsRow (w.heap.size+1) 30 1 (sq (w.heap.size+1) 0 0 0) 0 []):=by
  have h9:wB.ownsRow (w.heap.size+1) 30 1 (sq (w.heap.size+1) 0 0 0) 0 []:=by
   rw[←hwB,←O];exact World.ownsRow_made wA #[] 0 (by omega) (by omega) rfl
  exact h9
 have b0:=Bel.keeps BB.out a0;have b1:=Bel.keeps BB.out a1;go_enter Tryz.func12,Tryz.ntmps12
 go_wp2_with fail
 refine(Yw _ F _ (HF.out.later (Bel.after BA.out BB.out))).mono ?_;rintro e w2 ⟨s,rfl,hs,b2⟩;have HS:Hid (s=true↔qg F):=hs;have B2:Hid (Below wB.heap.size wB w2):=b2;have ak:w.heap.size+2≤w2.heap.size:=by have:=b2.size;omega
 have c0:=Bel.keeps b2 b0;have c1:=Bel.keeps b2 b1;have G:w2.ownsRow (w.heap.size+1) 30 1 (sq (w.heap.size+1) 0 0 0) 0 []:=KP RB.out b2;have R2:Hid (w2.ownsRow (w.heap.size+1) 30 1 (sq (w.heap.size+1) 0 0 0) 0 []):=G;clear hs b2 G a0 a1 b0 b1;cases s
 ·have HE:Hid (q7 F = []):=ah2 (fun h=>by have:=HS.out.2 h;cases this);go_wp2_with fail
  go_ret;rw[HE.out];exact⟨_,rfl,OB.out.keep B2.out,Bel.after (Bel.after BA.out BB.out) B2.out⟩
 ·have hp:qg F:=HS.out.1 rfl;have HP:Hid (qg F):=hp;obtain⟨n',V,hv⟩:=ZR hp;have en:n'=n:=hv.len.symm.trans HN.out;subst en;have L:Hid (Je F n' V):=hv;have h1:=hv.n1;have ag:=hv.n16;have ad:=hv.v80;clear hp hv;have M:kJ w2 (.agg #[.slice ba n' bcap,vi vals]) F:=HF.out.later (Bel.after (Bel.after BA.out BB.out) B2.out);have K:Hid (kJ w2 (.agg #[.slice ba n' bcap,vi vals]) F):=M;clear M;go_wp2_with fail
  refine(ahv _ F n' V _ K.out L.out).mono ?_;rintro e w3 ⟨mg,mc,rfl,hm,b3⟩;have HM:Hid (abp w3 w2.heap.size mg n' V (qz F)):=hm;have B3:Hid (Below w2.heap.size w2 w3):=b3;have am:w.heap.size+2≤w3.heap.size:=by have:=b3.size;omega
  have ai:w.heap.size+2≤mg:=by have:=hm.low;omega
  have d0:=Bel.keeps b3 c0;have d1:=Bel.keeps b3 c1;have I:Hid (w3.ownsRow (w.heap.size+1) 30 1 (sq (w.heap.size+1) 0 0 0) 0 []):=KP R2.out b3;have af:Hid (kJ w3 (.agg #[.slice ba n' bcap,vi vals]) F):=K.out.later b3;clear hm b3 c0 c1;go_wp2_with fail
  go_loopw [3,5] (fun mv i wr=>∃(k g cap:Nat),k≤n'∧i=vi k∧mv=sq g 0 k cap∧LsUp wr (w.heap.size+1) (sq g 0 k cap) k (qz F)∧Below (w.heap.size+1) w3 wr∧abp wr w2.heap.size mg n' V (qz F)) (fun _ i _=>n'-(intOf i).toNat)
  case atStart=>exact⟨0,w.heap.size+1,0,Nat.zero_le _,rfl,rfl,⟨[],I.out,rfl,fun i hi=>absurd hi (by omega),fun i j hi=>absurd hi (by omega)⟩,Below.refl _ _,HM.out⟩
  case round=>
   obtain⟨wq,hwq⟩:∃x,x=wr:=⟨_,rfl⟩;subst hwq;obtain⟨k,g,cap,hk,rfl,rfl,hup,hbq,hmq⟩:=hrel;have UP:Hid (LsUp wq (w.heap.size+1) (sq g 0 k cap) k (qz F)):=hup;have BQ:Hid (Below (w.heap.size+1) w3 wq):=hbq;have MQ:Hid (abp wq w2.heap.size mg n' V (qz F)):=hmq;have f0:wq.cell? (Z w.heap.size 0)=some (.slice ba n' bcap):=(hbq.cell (p:=(Z w.heap.size 0)) (by simp)).trans d0;have f1:wq.cell? (Z w.heap.size 1)=some (vi vals):=(hbq.cell (p:=(Z w.heap.size 1)) (by simp)).trans d1;have ap:=hbq.size;clear hup hbq hmq;by_cases ah:(k:Int)<(n':Int)
   ·have ae:k<n':=by omega
    obtain⟨ua,uc,q1,q2⟩:=MQ.out.at k ae;have HQ:Hid (xU wq (.slice ua V uc) (bitsOf V (qz F k))):=q2;clear q2;go_wp2_with fail
    refine(ad3 ua V uc _ wq HQ.out ad).mono ?_;rintro e wM ⟨r,rfl,hr,hbM⟩;obtain⟨ra,rl,rc,rfl⟩:=aiv hr;rw[upL_eq (ahl F k) (fun z hz=>((Xb F k z).1 hz).2) (liveV L.out k)] at hr;have OM:Hid (ja wM wq.heap.size (.slice ra rl rc) (qz F k)):=hr;have BM:Hid (Below wq.heap.size wq wM):=hbM;clear hr hbM;obtain⟨hs,hrow,hl,hall,hap⟩:=UP.out;have B:Hid (wM.ownsRow (w.heap.size+1) 30 1 (sq g 0 k cap) k hs):=KP hrow BM.out;have J:Hid (∀i,i<k→ja wq (w.heap.size+1) (hs.getD i (.slice none 0 0)) ((qz F) i)):=hall;have aa:Hid (∀i j,i<k→j<k→i≠j→af3 (hs.getD i (.slice none 0 0)) (hs.getD j (.slice none 0 0))):=hap;have ab:Hid (hs.length=k):=hl;have ao:=BM.out.size;clear hrow hall hap hl;go_wp2_with (at_builtin;refine wpList_append_own _ rfl _ _ 28 rfl (w.heap.size+1) 30 i0 (.slice none 0 0) 1 24 Tryz.underlying28 hi hz0 hz1 hz2 rfl (by decide) (sq g 0 k cap) k hs rfl (World.ownsRow.alloc B.out _) (Z wM.heap.size 0) 1 1 [.slice ra rl rc] (by simp[Act.eval]) rfl (by have:=cell_one_new wM (.slice ra rl rc) 30;simpa using this) (by simp[Value.oneCell']) (by omega) (by omega) (by simp;omega) ?_;intro v' wa H t _;obtain⟨g',cap',rfl⟩:=ownsRow_succ H)
    have UA:Hid (LsUp wa (w.heap.size+1) (sq g' 0 (k+1) cap') (k+1) (qz F)):=aiO B.out ab.out J.out aa.out BM.out (by omega) OM.out H t;have X:Hid (Below (w.heap.size+1) wM wa):=(((Below.refl (w.heap.size+1) wM).alloc (by omega) _).grown t (by simp;omega) (fun j ej=>by have:=(World.ownsRow.lt B.out j ej).1;omega));have MA:Hid (abp wa w2.heap.size mg n' V (qz F)):=(MQ.out.keep BM.out).grownL t B.out;have U:Hid (Below (w.heap.size+1) w3 wa):=BQ.out.trans ((BM.out.mono (by omega)).trans X.out);go_roundw
    case rel=>exact⟨k+1,g',cap',by omega,by simp,rfl,UA.out,U.out,MA.out⟩
    case measure=>simp[intOf];omega
   ·have ac:n'=k:=by omega
    subst ac;go_wp2_with fail
    go_ret;rw[ah1 HP.out,HN.out];obtain⟨g9,cap9,us9,e9,r9⟩:=UP.out.lists;exact⟨_,rfl,⟨g9,cap9,us9,e9,r9.lower (by omega)⟩,(Bel.after (Bel.after (Bel.after BA.out BB.out) B2.out) B3.out).trans (BQ.out.mono (by omega))⟩
end Go.Proofs.YtkbhbekfniadhaaGreat
