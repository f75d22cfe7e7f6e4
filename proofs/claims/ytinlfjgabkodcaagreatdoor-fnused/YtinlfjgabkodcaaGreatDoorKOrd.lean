/- The model's l3Left: from a block on, what was come to and what was left, as mathematics says. The model's Order: those that are reached, as they are left last. -/
import Derived.Test.YtinlfjgabkodcaaGreatDoorKDfs
import Derived.Test.YtinlfjgabkodcaaGreatDoorKGraph
import Derived.Maps.AppendAt
import Derived.Deep.RegionWith
import Derived.BigRegion
import Derived.Test.YtinlfjgabkodcaaGreatDoorKTo
import Derived.Laws.OwnMore
namespace Go.Proofs.YtinlfjgabkodcaaGreatDoor
open Go.ChangeShapes Go.WideShapes Go.ChangeAt Go.RowKit Go.Shelf
set_option linter.unusedVariables false
def seenCells (n:Nat)(seen:List Nat):Array Value:=((List.range n).map (fun i=>Value.bool (decide (i∈seen)))).toArray
def SeenRow (w:World)(g n:Nat)(seen:List Nat):Prop:=w.heap[g]? = some (.cells (seenCells n seen) 4 (0,0))
theorem SeenRow.lt {w:World}{g n:Nat}{seen:List Nat}(h:SeenRow w g n seen):g<w.heap.size:=(Array.getElem?_eq_some_iff.1 h).1
theorem SeenRow.cell {w:World}{g n:Nat}{seen:List Nat}(h:SeenRow w g n seen){j:Nat}(hj:j<n):w.cell? ⟨g,j,none⟩=some (.bool (decide (j∈seen))):=by
 simp[World.cell?,show w.heap[g]? = _ from h,seenCells,hj]
theorem SeenRow.frozen {w:World}{g n:Nat}{seen:List Nat}(h:SeenRow w g n seen)(j:Nat):w.frozen? ⟨g,j,none⟩=false:=by simp[World.frozen?,show w.heap[g]? = _ from h]
theorem seenCells_set (n:Nat)(seen:List Nat)(b:Nat):(seenCells n seen).setIfInBounds b (.bool true)=seenCells n (b :: seen):=by
 apply Array.ext
 ·simp[seenCells]
 ·intro i h1 h2
  have hi:i<n:=by simpa [seenCells] using h1
  rw[Array.getElem_setIfInBounds (by simpa [seenCells] using hi)]
  by_cases e:b=i
  ·subst e
   simp[seenCells]
  ·have e2:¬i=b:=fun h=>e h.symm
   simp[seenCells,e,e2]
theorem SeenRow.put {w:World}{g n:Nat}{seen:List Nat}(h:SeenRow w g n seen)(b:Nat):SeenRow (w.setCell ⟨g,b,none⟩ (.bool true)) g n (b :: seen):=by
 obtain⟨hlt,hk⟩:=Array.getElem?_eq_some_iff.1 h
 show(w.heap.modify g _)[g]? = _
 rw[Array.getElem?_eq_getElem (by rw[Array.size_modify];exact hlt),Array.getElem_modify_self,hk]
 simp[seenCells_set]
def NewOr (ov ov':Value)(N:Nat):Prop:=ov'.ownBlock=ov.ownBlock∨∀k,ov'.ownBlock=some k→N≤k
structure FrO (g:Nat)(ov:Value)(w w':World):Prop where
 size:w.heap.size≤w'.heap.size
 block:∀k,k<w.heap.size→k≠g→some k≠ov.ownBlock→w'.heap[k]? = w.heap[k]?
theorem FrO.refl (g:Nat)(ov:Value)(w:World):FrO g ov w w:=⟨Nat.le_refl _,fun _ _ _ _=>rfl⟩
theorem FrO.later {g:Nat}{ov:Value}{w a b:World}(h:FrO g ov w a)(k:Below a.heap.size a b):FrO g ov w b :=
 ⟨Nat.le_trans h.size k.size,fun i hi h1 h2=>(k.block i (Nat.lt_of_lt_of_le hi h.size)).trans (h.block i hi h1 h2)⟩
theorem FrO.next {g:Nat}{ov o1:Value}{w a b:World}(h:FrO g ov w a)(hn:NewOr ov o1 w.heap.size)(k:FrO g o1 a b):FrO g ov w b :=
 ⟨Nat.le_trans h.size k.size,fun i hi h1 h2=>(k.block i (Nat.lt_of_lt_of_le hi h.size) h1 (fun e=>by
  rcases hn with e2 | e2
  ·exact h2 (e.trans e2)
  ·have:=e2 i e.symm;omega)).trans (h.block i hi h1 h2)⟩
theorem grown_set (W:World)(g o:Nat)(v:Value):W.grownBy (W.setCell ⟨g,o,none⟩ v) (some g) :=
 ⟨rfl,rfl,rfl,by simp[World.setCell],fun k _ hk=>Below.heap_setCell _ _ _ k (fun e=>hk (by rw[e]))⟩
theorem OwnInts.set {w:World}{lo:Nat}{v:Value}{l:List Int}(h:OwnInts w lo v l){g:Nat}(hne:some g≠v.ownBlock)(o:Nat)(u:Value):OwnInts (w.setCell ⟨g,o,none⟩ u) lo v l :=
 World.ownsRow.kept h (grown_set w g o u) (.inr hne.symm)
theorem SeenRow.not_row {w:World}{g n:Nat}{seen:List Nat}(h:SeenRow w g n seen){lo:Nat}{v:Value}{l:List Int}(ho:OwnInts w lo v l):some g≠v.ownBlock:=ho.not_box h (by decide)
theorem SeenRow.later {w w':World}{g n:Nat}{seen:List Nat}(h:SeenRow w g n seen)(hb:Below w.heap.size w w'):SeenRow w' g n seen:=(hb.block g h.lt).trans h
def Apart (a b:Value):Prop := ∀k,a.ownBlock=some k→b.ownBlock≠some k
theorem IntsAt.apart {w w':World}{v ov:Value}{l:List Int}(h:IntsAt w v l){g:Nat}(hf:FrO g ov w w')(hv:∀k,v.ownBlock=some k→k<w.heap.size∧k≠g)(ha:Apart v ov):IntsAt w' v l:=by
 obtain⟨a,cap,rfl,hm,hc⟩:=h
 refine⟨a,cap,rfl,hm,fun hp=>?_⟩
 obtain⟨b,off,rfl,hd⟩:=hc hp
 have hb:=hv b rfl
 exact⟨b,off,rfl,fun i hi=>by rw[World.cell?_of_block (w:=w) (w':=w') (a:=⟨b,off+i,none⟩) (hf.block b hb.1 hb.2 (fun e=>ha b rfl e.symm))];exact hd i hi⟩
def GivesLeft (lo g n:Nat)(W0:World)(ov:Value)(st:Way)(w:World)(e:Ending)(w':World):Prop :=
 ∃ov',e = .returned ov'∧OwnInts w' lo ov' st.2∧SeenRow w' g n st.1∧Below lo W0 w'∧FrO g ov w w'∧NewOr ov ov' w.heap.size
set_option maxRecDepth 100000 in
set_option maxHeartbeats 8000000 in
theorem l3Left_any (F:FnD)(v:Value)(W0:World)(n:Nat)(hF:FnAt W0 v F)(hS:FnShape F)(hN:F.blocks.length=n):∀(f bn:Nat) (st:Way) (ov:Value) (w:World) (g:Nat),
  Below W0.heap.size W0 w→W0.heap.size≤g→SeenRow w g n st.1→OwnInts w W0.heap.size ov st.2→bn<n→bn∉st.1→unseen n st.1≤f→st.2.length+unseen n st.1≤16→WayIn n st →
  Calls Tryz.prog 89 #[v,.int .i64 (bn:Int),.slice (some ⟨g,0,none⟩) n n,ov] w fun e w'=>GivesLeft W0.heap.size g n W0 ov (leave (succsN F) f bn st) w e w':=by
 have HF:Hid (FnAt W0 v F):=hF
 have HS:Hid (FnShape F):=hS
 have HN:Hid (F.blocks.length=n):=hN
 have h16:n≤16:=by have:=hS.2.1;omega
 have HSI:Hid (∀j,∀s∈succsN F j,0≤s∧s<(n:Int)):=by rw[←hN];exact succs_in hS
 obtain⟨vals,HV⟩:∃x,Hid (F.values=x):=⟨_,rfl⟩
 obtain⟨ba,bcap,rfl⟩:=hF.out HN.out HV.out
 clear hF hS hN
 intro f
 induction f with
 | zero=>
  intro bn st ov w g _ _ _ _ hb hn hu
  have:=unseen_pos hb hn
  omega
 | succ f ih=>
  intro bn st ov w g hB hg hs ho hb hn hu hl hw
  have IH:Hid (∀(bn:Nat) (st:Way) (ov:Value) (w:World) (g:Nat),
  Below W0.heap.size W0 w→W0.heap.size≤g→SeenRow w g n st.1→OwnInts w W0.heap.size ov st.2→bn<n→bn∉st.1→unseen n st.1≤f→st.2.length+unseen n st.1≤16→WayIn n st →
  Calls Tryz.prog 89 #[.agg #[.slice ba n bcap,.int .i64 vals],.int .i64 (bn:Int),.slice (some ⟨g,0,none⟩) n n,ov] w fun e w'=>GivesLeft W0.heap.size g n W0 ov (leave (succsN F) f bn st) w e w'):=ih
  have HB:Hid (Below W0.heap.size W0 w):=hB
  have HSR:Hid (SeenRow w g n st.1):=hs
  have HO:Hid (OwnInts w W0.heap.size ov st.2):=ho
  have HW:Hid (WayIn n st):=hw
  have HM:Hid (∀k,unseen n (midW (succsN F) f bn st ((succsN F bn).take k)).1≤f∧(midW (succsN F) f bn st ((succsN F bn).take k)).2.length+unseen n (midW (succsN F) f bn st ((succsN F bn).take k)).1+1≤16∧WayIn n (midW (succsN F) f bn st ((succsN F bn).take k))):=fun k=>
   have hm:=mid_len HSI.out (f:=f) hb hn hl hw ((succsN F bn).take k) (fun s hs=>HSI.out bn s (List.mem_of_mem_take hs))
   ⟨mid_unseen hb hn hu _,hm.1,hm.2⟩
  have hgl:g<w.heap.size:=hs.lt
  have q1:=hs.cell hb
  have q2:=hs.frozen bn
  have hbi:(bn:Int)<(n:Int):=by omega
  clear ih hB hs ho hw hu hl
  go_enter Tryz.func89,Tryz.ntmps89
  go_wp2_with fail
  obtain⟨wB,hwB⟩:∃wB,(w.setCell ⟨g,bn,none⟩ (.bool true)).alloc (.cells #[.slice ba n bcap,.int .i64 vals] 26)=wB:=⟨_,rfl⟩
  have hsB:wB.heap.size=w.heap.size+1:=by rw[←hwB];simp
  have SB:Hid (SeenRow wB g n (bn :: st.1)):=by rw[←hwB];exact(HSR.out.put bn).later (Bel.alloc _ _)
  have OB:Hid (OwnInts wB W0.heap.size ov st.2):=by rw[←hwB];exact(HO.out.set (HSR.out.not_row HO.out) _ _).keep (Bel.alloc _ _)
  have BB:Hid (Below W0.heap.size W0 wB):=by rw[←hwB];exact(HB.out.setCell (p:=⟨g,bn,none⟩) hg _).trans ((Bel.alloc _ _).mono (by have:=HB.out.size;simpa using this))
  have xb:wB.heap[w.heap.size]? = some (.cells #[.slice ba n bcap,.int .i64 vals] 26 (0,0)):=by
   rw[←hwB]
   have h:=World.alloc_heap_new (w.setCell ⟨g,bn,none⟩ (.bool true)) (.cells #[.slice ba n bcap,.int .i64 vals] 26)
   simpa using h
  have XB:Hid (wB.heap[w.heap.size]? = some (.cells #[.slice ba n bcap,.int .i64 vals] 26 (0,0))):=xb
  clear xb
  have FB:Hid (FrO g ov w wB):=by
   rw[←hwB]
   exact FrO.later ⟨by simp,fun k _ h1 _=>Below.heap_setCell _ _ _ k h1⟩ (Bel.alloc _ _)
  try rw[hwB]
  clear hwB q1 q2
  refine(l3Succs_any _ F bn _ (HF.out.later BB.out) (by rw[HN.out];exact hb)).mono ?_
  rintro e w1 ⟨nv,rfl,on,b1⟩
  have ON:Hid (OwnInts w1 wB.heap.size nv (succsN F bn)):=on
  have S1:Hid (SeenRow w1 g n (bn :: st.1)):=SB.out.later b1
  have O1:Hid (OwnInts w1 W0.heap.size ov st.2):=OB.out.keep b1
  have B1:Hid (Below W0.heap.size W0 w1):=BB.out.trans (b1.mono BB.out.size)
  have X1:Hid (w1.heap[w.heap.size]? = some (.cells #[.slice ba n bcap,.int .i64 vals] 26 (0,0))):=(b1.block _ (by omega)).trans XB.out
  have FR1:Hid (FrO g ov w w1):=FB.out.later b1
  have hs1:w.heap.size+1≤w1.heap.size:=by have:=b1.size;omega
  have NB:Hid (∀k,nv.ownBlock=some k→w.heap.size+1≤k∧k<w1.heap.size):=fun k hk=>by have:=World.ownsRow.lt on k hk;omega
  obtain⟨na,ncap,hnv,_⟩:=on.row
  obtain⟨m,HMM⟩:∃m,Hid ((succsN F bn).length=m):=⟨_,rfl⟩
  have hm2:m≤2:=by rw[←HMM.out];exact succsN_small _ _
  rw[HMM.out] at hnv
  subst hnv
  clear b1 on
  go_wp2_with fail
  go_loopw [3,10] (fun o i wr=>∃k:Nat,k≤m∧i = .int .i64 k∧OwnInts wr W0.heap.size o (midW (succsN F) f bn st ((succsN F bn).take k)).2∧SeenRow wr g n (midW (succsN F) f bn st ((succsN F bn).take k)).1∧Below W0.heap.size W0 wr∧FrO g ov w wr∧NewOr ov o w.heap.size∧Apart (.slice na m ncap) o∧w1.heap.size≤wr.heap.size∧IntsAt wr (.slice na m ncap) (succsN F bn)∧wr.heap[w.heap.size]? = some (.cells #[.slice ba n bcap,.int .i64 vals] 26 (0,0))) (fun _ i _=>m-(intOf i).toNat)
  case atStart=>
   refine⟨0,Nat.zero_le _,rfl,O1.out,S1.out,B1.out,FR1.out,.inl rfl,fun k hk e=>?_,Nat.le_refl _,ON.out.at,X1.out⟩
   have h1:=(NB.out k hk).1
   have h2:=(World.ownsRow.lt HO.out k e).2
   omega
  case round=>
   obtain⟨k,hk,rfl,o2,s2,b2,f2,n2,ap2,hs2,i2,x2⟩:=hrel
   have O2:Hid (OwnInts wr W0.heap.size u3 (midW (succsN F) f bn st ((succsN F bn).take k)).2):=o2
   have S2:Hid (SeenRow wr g n (midW (succsN F) f bn st ((succsN F bn).take k)).1):=s2
   have B2:Hid (Below W0.heap.size W0 wr):=b2
   have F2:Hid (FrO g ov w wr):=f2
   have N2:Hid (NewOr ov u3 w.heap.size):=n2
   have AP2:Hid (Apart (.slice na m ncap) u3):=ap2
   have I2:Hid (IntsAt wr (.slice na m ncap) (succsN F bn)):=i2
   have X2:Hid (wr.heap[w.heap.size]? = some (.cells #[.slice ba n bcap,.int .i64 vals] 26 (0,0))):=x2
   have c0:wr.cell? ⟨w.heap.size,0,none⟩=some (.slice ba n bcap):=by simp[World.cell?,x2]
   have c1:wr.cell? ⟨w.heap.size,1,none⟩=some (.int .i64 vals):=by simp[World.cell?,x2]
   clear o2 s2 b2 f2 n2 ap2 i2 x2
   by_cases hlt:(k:Int)<(m:Int)
   ·have hkm:k<(succsN F bn).length:=by have:=HMM.out;omega
    obtain⟨na',ncap',hna,hnm,hnc⟩:=I2.out
    obtain⟨nb,noff,e0,hnd⟩:=hnc (by omega)
    subst e0
    simp only[Value.slice.injEq] at hna
    obtain⟨hna1,hna2,hna3⟩:=hna
    subst hna1 hna3
    have q1:=hnd k hkm
    obtain⟨s,HSS⟩:∃s,Hid ((succsN F bn).getD k 0=s):=⟨_,rfl⟩
    rw[HSS.out] at q1
    have hsm:s∈succsN F bn:=by rw[←HSS.out];simp[List.getD,hkm]
    have hsr:=HSI.out bn s hsm
    obtain⟨sn,rfl⟩:∃sn:Nat,s=(sn:Int):=⟨s.toNat,by omega⟩
    have hsn:sn<n:=by omega
    have q2:=S2.out.cell hsn
    have TK:Hid (midW (succsN F) f bn st ((succsN F bn).take (k+1))=stepW (leave (succsN F) f) (midW (succsN F) f bn st ((succsN F bn).take k)) (sn:Int)):=by
     rw[take_next hkm,HSS.out]
     exact midW_snoc _ _ _ _ _ _
    clear hnd hnc hnm hsm hna2 hsr
    by_cases hin:sn∈(midW (succsN F) f bn st ((succsN F bn).take k)).1
    ·rw[decide_eq_true hin] at q2
     have TE:Hid (midW (succsN F) f bn st ((succsN F bn).take (k+1))=midW (succsN F) f bn st ((succsN F bn).take k)):=TK.out.trans (stepW_in (by simpa using hin))
     clear hin
     go_wp2_with fail
     go_roundw
     case rel=>
      refine⟨k+1,by omega,by go_num,?_,?_,B2.out,F2.out,N2.out,AP2.out,hs2,I2.out,X2.out⟩
      ·rw[TE.out];exact O2.out
      ·rw[TE.out];exact S2.out
     case measure=>simp[intOf];omega
    ·rw[decide_eq_false hin] at q2
     have TE:Hid (midW (succsN F) f bn st ((succsN F bn).take (k+1))=leave (succsN F) f sn (midW (succsN F) f bn st ((succsN F bn).take k))):=TK.out.trans (stepW_out (by simpa using hin))
     have HIN:Hid (¬sn∈(midW (succsN F) f bn st ((succsN F bn).take k)).1):=hin
     clear hin
     go_wp2_with fail
     obtain⟨mu,ml,mw⟩:=HM.out k
     have ML:Hid ((midW (succsN F) f bn st ((succsN F bn).take k)).2.length+unseen n (midW (succsN F) f bn st ((succsN F bn).take k)).1≤16):=by show _≤_;omega
     have MU:Hid (unseen n (midW (succsN F) f bn st ((succsN F bn).take k)).1≤f):=mu
     have MW:Hid (WayIn n (midW (succsN F) f bn st ((succsN F bn).take k))):=mw
     clear mu ml mw
     go_region_with (go_at_call 89;refine(IH.out sn (midW (succsN F) f bn st ((succsN F bn).take k)) u3 _ g (by first | exact B2.out.drew | exact B2.out) hg (by exact S2.out) (by exact O2.out) hsn HIN.out MU.out ML.out MW.out).mono ?_;rintro e w3 ⟨o',rfl,o3,s3,b3,f3,n3⟩;have O3:Hid (OwnInts w3 W0.heap.size o' (leave (succsN F) f sn (midW (succsN F) f bn st ((succsN F bn).take k))).2):=o3;have S3:Hid (SeenRow w3 g n (leave (succsN F) f sn (midW (succsN F) f bn st ((succsN F bn).take k))).1):=s3;have B3:Hid (Below W0.heap.size W0 w3):=b3;have F3:Hid (FrO g u3 wr w3):=⟨f3.size,f3.block⟩;have N3:Hid (NewOr u3 o' wr.heap.size):=n3;clear o3 s3 b3 f3 n3)
     all_goals
      go_wp2_with fail
      go_roundw
      case rel=>
       refine⟨k+1,by omega,by go_num,?_,?_,B3.out,F2.out.next N2.out F3.out,?_,?_,Nat.le_trans hs2 F3.out.size,?_,?_⟩
       ·rw[TE.out];exact O3.out
       ·rw[TE.out];exact S3.out
       ·rcases N3.out with e | e
        ·rcases N2.out with e2 | e2
         ·exact .inl (e.trans e2)
         ·exact .inr (fun j hj=>e2 j (e▸hj))
        ·exact .inr (fun j hj=>Nat.le_trans F2.out.size (e j hj))
       ·intro j hj e
        rcases N3.out with e2 | e2
        ·exact AP2.out j hj (e2▸e)
        ·have h1:=e2 j e
         have h2:=(NB.out j hj).2
         omega
       ·exact I2.out.apart F3.out (fun j hj=>⟨by have:=(NB.out j hj).2;omega,by have:=(NB.out j hj).1;omega⟩) AP2.out
       ·exact(F3.out.block _ (by have:=F2.out.size;omega) (by omega) (O2.out.not_box X2.out (by decide))).trans X2.out
      case measure=>simp[intOf];omega
   ·have hkm:k=m:=by omega
    subst hkm
    have TE:Hid (midW (succsN F) f bn st ((succsN F bn).take k)=midW (succsN F) f bn st (succsN F bn)):=by
     show _=_
     rw[←HMM.out,List.take_length]
    obtain⟨_,ml,_⟩:=HM.out k
    have hol:(midW (succsN F) f bn st ((succsN F bn).take k)).2.length≤16:=by omega
    obtain⟨i0,hi,hz0,hz1,hz2⟩:=info_parts info_int
    have hmx:100≤maxLen:=by decide
    clear ml c0 c1
    go_wp2_with (at_builtin;refine wpList_append_own_at _ rfl _ _ 38 rfl W0.heap.size 3 i0 (.int .i64 0) 1 8 Tryz.underlying38 hi hz0 hz1 hz2 rfl (by decide) _ _ _ rfl (World.ownsRow.alloc O2.out _) ⟨wr.heap.size,0,none⟩ 1 1 [.int .i64 (bn:Int)] rfl rfl (cell_one_new _ _ _) (by simp[Value.oneCell']) (by omega) (by omega) (by have:=B2.out.size;simp;omega) ?_;intro v' wa hown' hgrow _ hat;have HO':Hid (OwnInts wa W0.heap.size v' ((midW (succsN F) f bn st ((succsN F bn).take k)).2 ++ [(bn:Int)])):=OwnInts.next hown';have HG:Hid ((wr.alloc (.cells #[.int .i64 (bn:Int)] 3)).grownBy wa u3.ownBlock):=hgrow;have HAT:Hid (v'.ownBlock=u3.ownBlock∨v'.ownBlock=some (wr.alloc (.cells #[.int .i64 (bn:Int)] 3)).heap.size):=hat;clear hown' hgrow hat)
    go_ret
    refine⟨_,rfl,?_,?_,?_,?_,?_⟩
    ·rw[leave_eq]
     show OwnInts _ _ _ ((midW (succsN F) f bn st (succsN F bn)).2 ++ [(bn:Int)])
     rw[←TE.out]
     exact HO'.out
    ·rw[leave_eq]
     show SeenRow _ _ _ (midW (succsN F) f bn st (succsN F bn)).1
     rw[←TE.out]
     exact(HG.out.block g (by have:=S2.out.lt;simp;omega) (S2.out.not_row O2.out)).trans ((Below.heap_alloc wr _ g S2.out.lt).trans S2.out)
    ·exact B2.out.trans (O2.out.grown B2.out.size HG.out)
    ·exact F2.out.next N2.out ⟨by have:=HG.out.size;simp at this;omega,fun j hj _ h2=>(HG.out.block j (by simp;omega) h2).trans (Below.heap_alloc wr _ j hj)⟩
    ·rcases HAT.out with e | e
     ·rcases N2.out with e2 | e2
      ·exact .inl (e.trans e2)
      ·exact .inr (fun j hj=>e2 j (e▸hj))
     ·refine .inr (fun j hj=>?_)
      have hj2:v'.ownBlock=some j:=hj
      rw[e] at hj2
      simp at hj2
      have:=F2.out.size
      omega
theorem made_seen (n:Nat):madeCells #[.bool false] n=seenCells n []:=by
 apply Array.toList_inj.1
 rw[toList_madeCells_one]
 simp[seenCells]
 exact(List.eq_replicate_iff.2 ⟨by simp,by simp⟩).symm
theorem make_bools (n:Nat)(hn:n≤1048576)(w:World) :
  (Instr.makeSlice 28 (.int .i64 (n:Int)) (.int .i64 (n:Int))).run Tryz.prog w = .ok (.slice (some ⟨w.heap.size,0,none⟩) n n) (w.alloc (.cells (madeCells #[.bool false] n) 4)) :=
 by
 have h:=make_of (z := .bool false) (size:=1) (bytes:=1) Tryz.underlying28 (by kernel_rfl) n (by omega) (by omega) w
 rw[Nat.mul_one] at h
 exact h
theorem seen_new {w:World}{n g:Nat}(hg:w.heap.size=g):SeenRow (w.alloc (.cells (madeCells #[.bool false] n) 4)) g n []:=by
 subst hg
 rw[made_seen]
 exact World.alloc_heap_new w _
theorem SeenRow.store {w:World}{g n:Nat}{seen seen':List Nat}(h:SeenRow w g n seen)(b:Nat)(v:Bool)(hm:∀i,i<n→decide (i∈seen')=if i=b then v else decide (i∈seen)):SeenRow (w.setCell ⟨g,b,none⟩ (.bool v)) g n seen':=by
 obtain⟨hlt,hk⟩:=Array.getElem?_eq_some_iff.1 h
 show(w.heap.modify g _)[g]? = _
 rw[Array.getElem?_eq_getElem (by rw[Array.size_modify];exact hlt),Array.getElem_modify_self,hk]
 have e:(seenCells n seen).setIfInBounds b (.bool v)=seenCells n seen':=by
  apply Array.ext
  ·simp[seenCells]
  ·intro i h1 h2
   have hi:i<n:=by simpa [seenCells] using h1
   rw[Array.getElem_setIfInBounds (by simpa [seenCells] using hi)]
   have h3:=hm i hi
   have e1:(seenCells n seen')[i] = .bool (decide (i∈seen')):=by simp[seenCells]
   have e2:(seenCells n seen)[i]'(by simpa [seenCells] using hi) = .bool (decide (i∈seen)):=by simp[seenCells]
   rw[e1,e2,h3]
   by_cases e:b=i
   ·subst e
    simp
   ·have e3:¬i=b:=fun h=>e h.symm
    simp[e,e3]
 simp[e]
theorem SeenRow.congr {w:World}{g n:Nat}{a b:List Nat}(h:SeenRow w g n a)(hm:∀i,i<n→(i∈a↔i∈b)):SeenRow w g n b:=by
 have e:seenCells n a=seenCells n b:=by
  unfold seenCells
  congr 1
  apply List.map_congr_left
  intro i hi
  have:=hm i (by simpa using hi)
  simp[this]
 unfold SeenRow at h ⊢
 rw[h,e]
theorem SeenRow.drew {w:World}{g n:Nat}{seen:List Nat}(h:SeenRow w g n seen):SeenRow w.drew g n seen:=h
theorem OwnInts.drew {w:World}{lo:Nat}{v:Value}{l:List Int}(h:OwnInts w lo v l):OwnInts w.drew lo v l:=h
theorem drop_rev2 {L:List Int}{j:Nat}(h:j<L.length):(L.drop j).reverse=(L.drop (j+1)).reverse ++ [L.getD j 0]:=by
 rw[List.drop_eq_getElem_cons h,List.reverse_cons]
 simp[List.getD,h]
theorem l3Left_zero (F:FnD)(v:Value)(W0:World)(n:Nat)(hF:FnAt W0 v F)(hS:FnShape F)(hN:F.blocks.length=n)(ov:Value)(w:World)(g:Nat)(h0:0<n)(h16:n≤16)
  (hB:Below W0.heap.size W0 w) (hg:W0.heap.size≤g) (hs:SeenRow w g n []) (ho:OwnInts w W0.heap.size ov []) :
  Calls Tryz.prog 89 #[v,.int .i64 0,.slice (some ⟨g,0,none⟩) n n,ov] w fun e w'=>GivesLeft W0.heap.size g n W0 ov (wayOf F) w e w':=by
 have h:=l3Left_any F v W0 n hF hS hN n 0 ([],[]) ov w g hB hg hs ho h0 (by simp) (by rw[unseen_nil];omega) (by rw[unseen_nil];simp;omega) ⟨by simp,by simp⟩
 have e:leave (succsN F) n 0 ([],[])=wayOf F:=by rw[←hN];exact(rfl:wayOf F=wayOf F)
 rw[e] at h
 exact h
set_option maxRecDepth 100000 in
set_option maxHeartbeats 8000000 in
theorem l3Order_any (v:Value)(F:FnD)(w:World)(hF:FnAt w v F)(hS:FnShape F) :
  Calls Tryz.prog 43 #[v] w fun e w'=>GivesOwn w (wayOf F).2.reverse e w':=by
 have HF:Hid (FnAt w v F):=hF
 have HS:Hid (FnShape F):=hS
 obtain⟨n,HN⟩:∃n,Hid (F.blocks.length=n):=⟨_,rfl⟩
 obtain⟨vals,HV⟩:∃x,Hid (F.values=x):=⟨_,rfl⟩
 obtain⟨ba,bcap,rfl⟩:=hF.out HN.out HV.out
 have h16:n≤16:=by rw[←HN.out];exact hS.2.1
 have h1:1≤n:=by rw[←HN.out];exact hS.1
 clear hF hS
 obtain⟨L,HL⟩:∃L,Hid ((wayOf F).2=L):=⟨_,rfl⟩
 have hLn:L.length≤16:=by have:=(wayOf_len HS.out).1;rw[HL.out,HN.out] at this;omega
 obtain⟨i0,hi,hz0,hz1,hz2⟩:=info_parts info_int
 have hmx:100≤maxLen:=by decide
 have hmk:=make_bools n (by omega)
 obtain⟨wA,hwA⟩:∃wA,w.alloc (.cells #[.slice ba n bcap,.int .i64 vals] 26)=wA:=⟨_,rfl⟩
 have hsA:wA.heap.size=w.heap.size+1:=by rw[←hwA];simp
 have HA:Hid (Below w.heap.size w wA):=by rw[←hwA];exact Bel.alloc _ _
 have c0:wA.cell? ⟨w.heap.size,0,none⟩=some (.slice ba n bcap):=by rw[←hwA];simp[go_sem]
 have c1:wA.cell? ⟨w.heap.size,1,none⟩=some (.int .i64 vals):=by rw[←hwA];simp[go_sem]
 go_enter Tryz.func43,Tryz.ntmps43
 go_wp2_with fail
 try rw[hwA]
 clear hwA
 go_region_with (go_at_call 89;refine(l3Left_zero F _ w n HF.out HS.out HN.out _ _ _ (by omega) h16 (by repeat (first | exact HA.out | apply Below.drew | refine Below.alloc ?_ (by first | omega | (simp;omega)) _)) (by omega) (by (try refine SeenRow.drew ?_);first | exact(seen_new (by omega)).later (Bel.alloc _ _) | exact seen_new (by simp <;> omega)) (by (try refine OwnInts.drew ?_);first | exact(ownInts_nil (by omega) (by omega)).keep (Bel.alloc _ _) | exact ownInts_nil (by simp <;> omega) (by omega))).mono ?_;rintro e w3 ⟨o',rfl,o3,s3,b3,f3,n3⟩;have O3:Hid (OwnInts w3 w.heap.size o' (wayOf F).2):=o3;have B3:Hid (Below w.heap.size w w3):=b3;clear o3 s3 b3 f3 n3)
 all_goals
  have OL:Hid (IntsAt w3 o' L):=by rw[←HL.out];exact O3.out.at
  have OLB:Hid (∀k,o'.ownBlock=some k→k<w3.heap.size):=fun k hk=>(World.ownsRow.lt O3.out k hk).2
  obtain⟨la,lcap,hov,hlm,_⟩:=OL.out
  obtain⟨m,HM⟩:∃m,Hid (L.length=m):=⟨_,rfl⟩
  rw[HM.out] at hov hLn
  subst hov
  clear c0 c1 hmk hlm
  go_wp2_with fail
  go_loopw [4,5] (fun o i wr=>∃(j:Nat) (z:Int),j≤m∧i = .int .i64 z∧z=(j:Int)-1∧OwnInts wr w3.heap.size o (L.drop j).reverse∧Below w3.heap.size w3 wr) (fun _ i _=>(intOf i+1).toNat)
  case atStart=>
   refine⟨m,(m:Int)-1,Nat.le_refl _,by go_num,rfl,?_,Bel.alloc _ _⟩
   rw[List.drop_eq_nil_of_le (by rw[HM.out];omega)]
   exact ownInts_nil (by simp) (by omega)
  case round=>
   obtain⟨j,z,hj,rfl,hz,o4,b4⟩:=hrel
   have O4:Hid (OwnInts wr w3.heap.size u4 (L.drop j).reverse):=o4
   have B4:Hid (Below w3.heap.size w3 wr):=b4
   have hol:(L.drop j).reverse.length≤16:=by rw[List.length_reverse,List.length_drop,HM.out];omega
   have HOL:Hid ((L.drop j).reverse.length≤16):=hol
   clear o4 b4 hol
   by_cases hlt:0<j
   ·obtain⟨j,rfl⟩:∃j',j=j'+1:=⟨j-1,by omega⟩
    obtain rfl:z=(j:Int):=by omega
    obtain⟨la',lcap',hla,_,hlc⟩:=OL.out.keep B4.out
    obtain⟨lb,loff,e0,hld⟩:=hlc (by rw[HM.out];omega)
    subst e0
    simp only[Value.slice.injEq] at hla
    obtain⟨hla1,hla2,hla3⟩:=hla
    subst hla1 hla3
    clear hla2
    have q1:=hld j (by rw[HM.out];omega)
    obtain⟨x,HX⟩:∃x,Hid (L.getD j 0=x):=⟨_,rfl⟩
    rw[HX.out] at q1
    have hlt2:(j:Int)<(m:Int):=by omega
    clear hld hlc hz hlt
    go_wp2_with (at_builtin;refine wpList_append_own _ rfl _ _ 38 rfl w3.heap.size 3 i0 (.int .i64 0) 1 8 Tryz.underlying38 hi hz0 hz1 hz2 rfl (by decide) _ _ _ rfl (World.ownsRow.alloc O4.out _) ⟨wr.heap.size,0,none⟩ 1 1 [.int .i64 x] rfl rfl (cell_one_new _ _ _) (by simp[Value.oneCell']) (by have:=HOL.out;omega) (by have:=HOL.out;omega) (by have:=B4.out.size;simp;omega) ?_;intro v' wa hown' hgrow _;have HO':Hid (OwnInts wa w3.heap.size v' ((L.drop (j+1)).reverse ++ [x])):=OwnInts.next hown';have HG:Hid ((wr.alloc (.cells #[.int .i64 x] 3)).grownBy wa u4.ownBlock):=hgrow;clear hown' hgrow)
    go_roundw
    case rel=>
     refine⟨j,(j:Int)-1,by omega,by go_num,rfl,?_,B4.out.trans (O4.out.grown B4.out.size HG.out)⟩
     rw[drop_rev2 (by rw[HM.out];omega),HX.out]
     exact HO'.out
    case measure=>simp[intOf];try omega
   ·obtain rfl:j=0:=by omega
    have hneg:¬(0:Int)≤z:=by omega
    clear hz
    go_wp2_with fail
    go_ret
    refine⟨_,rfl,?_,Bel.after B3.out B4.out⟩
    rw[HL.out]
    have h:=O4.out
    rw[List.drop_zero] at h
    exact h.low B3.out.size
end Go.Proofs.YtinlfjgabkodcaaGreatDoor
