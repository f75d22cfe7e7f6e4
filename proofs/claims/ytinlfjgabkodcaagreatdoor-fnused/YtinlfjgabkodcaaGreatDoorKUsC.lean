/- What is used, of the program: whole. Used, of the program. -/
import Derived.Test.YtinlfjgabkodcaaGreatDoorKUsB
import Derived.Test.YtinlfjgabkodcaaGreatDoorKCkE
import Derived.Test.YtinlfjgabkodcaaGreatDoorKWalk
import Derived.Test.YtinlfjgabkodcaaGreatDoorKOrd
namespace Go.Proofs.YtinlfjgabkodcaaGreatDoor
open Go.ChangeShapes Go.WideShapes Go.ChangeAt Go.RowKit
set_option linter.unusedVariables false
set_option maxRecDepth 100000
def GivesUsed (w:World)(F:FnD)(e:Ending)(w':World):Prop := ∃mb U,e = .returned (.map (some mb))∧MapU w' mb U∧(∀v,v∈U↔UsedV F v)∧Below w.heap.size w w'
set_option maxHeartbeats 8000000 in
theorem usedFacts_any (v:Value)(F:FnD)(w:World)(hF:FnAt w v F)(hs:FnShape F)(hc:¬CopyIn F)(ha:AllReached F) :
  Calls Tryz.prog 32 #[v] w fun e w'=>GivesUsed w F e w':=by
 have HF:Hid (FnAt w v F):=hF
 have HS:Hid (FnShape F):=hs
 have HCP:Hid (¬CopyIn F):=hc
 have HAR:Hid (AllReached F):=ha
 obtain⟨n,HN⟩:∃n,Hid (F.blocks.length=n):=⟨_,rfl⟩
 obtain⟨vals,HVL⟩:∃x,Hid (F.values=x):=⟨_,rfl⟩
 obtain⟨ba,bcap,rfl⟩:=hF.out HN.out HVL.out
 have hmm:=@run_makeMap Tryz.prog
 clear hF hs hc ha
 go_enter Tryz.func32,Tryz.ntmps32
 go_wp2_with fail
 clear hmm
 obtain⟨X,HX⟩:∃X,Hid (w.heap.size=X):=⟨_,rfl⟩
 obtain⟨w1,hw1⟩:∃W,w.alloc (.cells #[.slice ba n bcap,.int .i64 vals] 26)=W:=⟨_,rfl⟩
 have B1:Hid (Below w.heap.size w w1):=by show Below _ _ _;rw[←hw1];exact Bel.alloc _ _
 have HX0:Hid (w1.cell? ⟨X,0,none⟩=some (.slice ba n bcap)):=by show _=_;rw[←hw1,←HX.out];simp[go_sem]
 have HX1:Hid (w1.cell? ⟨X,1,none⟩=some (.int .i64 vals)):=by show _=_;rw[←hw1,←HX.out];simp[go_sem]
 have hs1:w1.heap.size=X+1:=by rw[←hw1,←HX.out];simp
 obtain⟨w2,hw2⟩:∃W,w1.alloc (.map #[] 0)=W:=⟨_,rfl⟩
 have B2:Hid (Below w1.heap.size w1 w2):=by show Below _ _ _;rw[←hw2];exact Bel.alloc _ _
 have M2:Hid (MapU w2 (X+1) []):=by
  refine⟨List.nodup_nil,fun v hv=>(by cases hv),.map [],?_,fun v hv=>rfl,rfl⟩
  rw[←hw2,←hs1]
  exact(World.ownsMap_made w1 _ _ _).mono (Nat.zero_le _)
 have hs2:w2.heap.size=X+2:=by rw[←hw2];simp;omega
 rw[hw1,hw2,HX.out]
 clear hw1 hw2
 obtain⟨mb,HMB⟩:∃q,Hid (X+1=q):=⟨_,rfl⟩
 rw[HMB.out] at M2 ⊢
 refine(takePhis_any mb _).mono ?_
 rintro e w3 ⟨rfl,e3⟩
 have B3:Hid (Below w2.heap.size w2 w3):=by show Below _ _ _;rw[e3];exact Bel.alloc _ _
 have m3:w3.cell? ⟨w2.heap.size,0,none⟩=some (.map (some mb)):=by rw[e3];simp[go_sem]
 have hs3:w3.heap.size=w2.heap.size+1:=by rw[e3];simp
 obtain⟨k1,HK1⟩:∃q,Hid (w2.heap.size=q):=⟨_,rfl⟩
 rw[HK1.out] at m3 ⊢
 clear e3
 go_wp2_with fail
 refine(takeList_any mb _).mono ?_
 rintro e w4 ⟨rfl,e4⟩
 have B4:Hid (Below w3.heap.size w3 w4):=by show Below _ _ _;rw[e4];exact Bel.alloc _ _
 have m4:w4.cell? ⟨w3.heap.size,0,none⟩=some (.map (some mb)):=by rw[e4];simp[go_sem]
 obtain⟨k2,HK2⟩:∃q,Hid (w3.heap.size=q):=⟨_,rfl⟩
 rw[HK2.out] at m4 ⊢
 clear e4
 go_wp2_with fail
 refine(takeTerm_any mb _).mono ?_
 rintro e w5 ⟨rfl,e5⟩
 have B5:Hid (Below w4.heap.size w4 w5):=by show Below _ _ _;rw[e5];exact Bel.alloc _ _
 have m5:w5.cell? ⟨w4.heap.size,0,none⟩=some (.map (some mb)):=by rw[e5];simp[go_sem]
 obtain⟨k3,HK3⟩:∃q,Hid (w4.heap.size=q):=⟨_,rfl⟩
 rw[HK3.out] at m5 ⊢
 clear e5
 go_wp2_with fail
 obtain⟨w6,hw6⟩:∃W,w5.alloc (.cells #[.func (Fn.func 123) #[] #[.pointer (some ⟨k1,0,none⟩)],.func (Fn.func 125) #[] #[.pointer (some ⟨k2,0,none⟩)],.func (Fn.func 127) #[] #[.pointer (some ⟨k3,0,none⟩)]] 84)=W:=⟨_,rfl⟩
 have B6:Hid (Below w5.heap.size w5 w6):=by show Below _ _ _;rw[←hw6];exact Bel.alloc _ _
 obtain⟨g,HG⟩:∃q,Hid (w5.heap.size=q):=⟨_,rfl⟩
 have HP6:Hid (PassesAt w6 g mb k1 k2 k3):=by
  refine⟨?_,?_,?_,Bel.keeps B6.out (Bel.keeps B5.out (Bel.keeps B4.out m3)),Bel.keeps B6.out (Bel.keeps B5.out m4),Bel.keeps B6.out m5⟩
  ·rw[←hw6,←HG.out];simp[go_sem]
  ·rw[←hw6,←HG.out];simp[go_sem]
  ·rw[←hw6,←HG.out];simp[go_sem]
 have B16:Hid (Below w1.heap.size w1 w6):=Bel.after (Bel.after (Bel.after (Bel.after B2.out B3.out) B4.out) B5.out) B6.out
 have M6:Hid (MapU w6 mb []):=(((M2.out.kept B3.out).kept B4.out).kept B5.out).kept B6.out
 have B06:Hid (Below w.heap.size w w6):=Bel.after B1.out B16.out
 have X60:Hid (w6.cell? ⟨X,0,none⟩=some (.slice ba n bcap)):=Bel.keeps B16.out HX0.out
 have X61:Hid (w6.cell? ⟨X,1,none⟩=some (.int .i64 vals)):=Bel.keeps B16.out HX1.out
 rw[hw6,HG.out]
 clear hw6 m3 m4 m5
 go_loopw [5] (fun i wr=>∃(bI:Int) (U:List Int),i = .int .i64 bI∧-1≤bI∧bI≤(U.length:Int)∧MapU wr mb U∧(∀v∈U,UsedV F v)∧(bI=(U.length:Int)→∀v,v∈U↔UsedV F v)∧Fr mb w6 wr) (fun i _=>(81-intOf i).toNat)
 case atStart=>exact⟨-1,[],rfl,by omega,by simp,M6.out,fun v hv=>(by cases hv),fun h=>absurd h (by simp),Fr.refl _ _⟩
 case round=>
  obtain⟨bI,U,rfl,hb1,hbl,hMp,hsd,hfin,hFr⟩:=hrel
  have HMP:Hid (MapU wr mb U):=hMp
  have HSD:Hid (∀v∈U,UsedV F v):=hsd
  have HFIN:Hid (bI=(U.length:Int)→∀v,v∈U↔UsedV F v):=hfin
  have HFR:Hid (Fr mb w6 wr):=hFr
  obtain⟨q,HQ⟩:∃q,Hid (U.length=q):=⟨_,rfl⟩
  rw[HQ.out] at hbl HFIN
  have hq80:q≤80:=by rw[←HQ.out];exact small_list hMp.1 hMp.2.1
  obtain⟨_,_,D,hown,_,hsz⟩:=HMP.out
  have HSZ:Hid (Maps.size D=q):=by show _=_;rw[hsz,HQ.out]
  have HOWN:Hid (wr.ownsMap Tryz.prog 106 (plainElem Tryz.prog 3) mb 80 D):=hown
  clear hMp hsd hfin hFr hown hsz
  have KW:Hid (Keeps 0 w6 wr):=keeps_fr HFR.out M6.out.isMap
  have x0:=KW.out _ _ (Nat.zero_le _) X60.out
  have x1:=KW.out _ _ (Nat.zero_le _) X61.out
  by_cases hlt:bI<(q:Int)
  ·go_wp2_with (at_len;refine wpList_len_own _ rfl _ 60 rfl 106 3 Tryz.underlying60 _ mb _ D rfl HOWN.out ?_;rw[HSZ.out])
   refine(passAll_any _ F g mb k1 k2 k3 U _ (FnAtLo.keep (HF.out.later B06.out) KW.out) HS.out HCP.out HMP.out (HP6.out.keep KW.out)).mono ?_
   rintro e w7 ⟨⟨r,rfl⟩,f7,m7⟩
   have F7:Hid (Fr mb w6 w7):=HFR.out.trans f7
   have M7:Hid (MapU w7 mb (roundOf F (orderOf F) U)):=m7
   clear f7 m7
   go_wp2_with fail
   go_roundw
   case rel=>
    have hg:=grew_round HS.out HCP.out (orderOf F) U
    obtain⟨A,hA⟩:=hg.more
    refine⟨(q:Int),_,rfl,by omega,?_,M7.out,hg.sound HSD.out,fun h=>?_,F7.out⟩
    ·rw[hA,List.length_append]
     have:=HQ.out
     omega
    ·have hA0:A = []:=by
      rw[hA,List.length_append] at h
      have:=HQ.out
      exact List.eq_nil_of_length_eq_zero (by omega)
     rw[hA0,List.append_nil] at hA
     rw[hA]
     exact round_ends HS.out HCP.out (order_all HS.out HAR.out) HSD.out hA
   case measure=>simp[intOf];omega
  ·go_wp2_with (at_len;refine wpList_len_own _ rfl _ 60 rfl 106 3 Tryz.underlying60 _ mb _ D rfl HOWN.out ?_;rw[HSZ.out])
   go_ret
   exact⟨mb,U,rfl,HMP.out,HFIN.out (by omega),B06.out.trans (HFR.out.below (by have:=HMB.out;have:=HX.out;omega) B06.out.size)⟩
set_option maxRecDepth 100000
def listB (n:Nat)(f:Nat→Bool):List Bool:=(List.range n).map f
def updB (f:Nat→Bool)(d:Nat)(x:Bool):Nat→Bool:=fun i=>if i=d then x else f i
theorem listB_len (n:Nat)(f:Nat→Bool):(listB n f).length=n:=by simp[listB]
theorem listB_at (n:Nat)(f:Nat→Bool){i:Nat}(h:i<n):(listB n f).getD i false=f i:=by simp[listB,List.getD,h]
theorem listB_set (n:Nat)(f:Nat→Bool)(d:Nat)(x:Bool):(listB n f).set d x=listB n (updB f d x):=by
 apply List.ext_getElem?
 intro i
 by_cases hi:i<n
 ·by_cases e:d=i
  ·subst e
   simp[listB,updB,hi]
  ·have e2:¬i=d:=fun h=>e h.symm
   simp[listB,updB,hi,e,e2]
 ·rw[List.getElem?_eq_none (by simp[listB];omega),List.getElem?_eq_none (by simp[listB];omega)]
theorem OwnBools.setAt {w:World}{lo g n cap:Nat}{l:List Bool}(h:OwnBools w lo (.slice (some ⟨g,0,none⟩) n cap) l){d:Nat}(hd:d<n)(x:Bool):OwnBools (w.setCell ⟨g,d,none⟩ (.bool x)) lo (.slice (some ⟨g,0,none⟩) n cap) (l.set d x):=by
 rcases h with ⟨h00,h⟩
 rcases h with ⟨h0,_⟩ | ⟨g',cap',cur,h0,hlo,hg,h1,h2,h3,h4⟩
 ·cases h0
 ·cases h0
  refine⟨by simp,.inr ⟨g,cap,cur.setIfInBounds d (.bool x),by simp,hlo,heap_setCell_same _ _ _ _ _ _ hg,by simpa using h1,by simpa using h2,by simpa using h3,?_⟩⟩
  have e:(cur.setIfInBounds d (Value.bool x)).toList=cur.toList.set d (.bool x):=by simp
  rw[e,List.length_set,List.take_set,h4,List.map_set]
theorem OwnBools.heapOf {w:World}{lo g n cap:Nat}{l:List Bool}(h:OwnBools w lo (.slice (some ⟨g,0,none⟩) n cap) l):∃c,w.heap[g]? = some (.cells c 4 (0,0)):=by
 rcases h.2 with ⟨h0,_⟩ | ⟨g',cap',cur,h0,_,hg,_⟩
 ·cases h0
 ·cases h0
  exact⟨cur,hg⟩
theorem OwnBools.cellAt {w:World}{lo g n cap:Nat}{l:List Bool}(h:OwnBools w lo (.slice (some ⟨g,0,none⟩) n cap) l)(hn:l.length=n){i:Nat}(hi:i<n):w.cell? ⟨g,i,none⟩=some (.bool (l.getD i false)):=by
 obtain⟨a,c,e,hc⟩:=h.row
 obtain⟨g',e2,_,_,h1,_⟩:=hc (by omega)
 subst e2
 simp at e
 obtain⟨rfl,_,_⟩:=e
 exact h1 i (by omega)
theorem own_madeB {w:World}{lo:Nat}(n:Nat)(hn:n≤1048576)(hlo:lo≤w.heap.size):OwnBools (w.alloc (.cells (madeCells #[.bool false] n) 4)) lo (.slice (some ⟨w.heap.size,0,none⟩) n n) (listB n (fun _=>false)):=by
 have hm : n ≤ maxLen := by have : 1048576 ≤ maxLen := by decide
                            omega
 refine⟨by simp[listB_len],.inr ⟨w.heap.size,n,madeCells #[.bool false] n,by rw[listB_len],hlo,World.alloc_heap_new w _,by rw[listB_len];exact Nat.le_refl _,hm,by simp[size_madeCells],?_⟩⟩
 rw[toList_madeCells_one,listB_len]
 simp[listB]
 exact(List.eq_replicate_iff.2 ⟨by simp,by simp⟩).symm
set_option maxHeartbeats 8000000 in
theorem impl_used (v:Value)(F:FnD)(w:World)(hF:FnAt w v F)(hg:HandleAt w) :
  Calls Tryz.prog 10 #[v] w fun e w'=>GivesOwnB w (usedAll F) e w':=by
 have HF:Hid (FnAt w v F):=hF
 have HG:Hid (HandleAt w):=hg
 obtain⟨n,HN⟩:∃n,Hid (F.blocks.length=n):=⟨_,rfl⟩
 obtain⟨vals,HV⟩:∃x,Hid (F.values=x):=⟨_,rfl⟩
 obtain⟨ba,bcap,rfl⟩:=hF.out HN.out HV.out
 obtain⟨c,HC⟩:∃c,Hid (checkOf F=c):=⟨_,rfl⟩
 obtain⟨L,HL⟩:∃L,Hid (usedAll F=L):=⟨_,rfl⟩
 rw[HL.out]
 clear hF hg
 go_enter Tryz.func10,Tryz.ntmps10
 go_wp2_with fail
 obtain⟨w1,hw1⟩:∃W,w.alloc (.cells #[.slice ba n bcap,.int .i64 vals] 26)=W:=⟨_,rfl⟩
 obtain⟨X,HX⟩:∃X,Hid (w.heap.size=X):=⟨_,rfl⟩
 have B1:Hid (Below w.heap.size w w1):=by show Below _ _ _;rw[←hw1];exact Bel.alloc _ _
 have x0:w1.cell? ⟨X,0,none⟩=some (.slice ba n bcap):=by rw[←hw1,←HX.out];simp[go_sem]
 have x1:w1.cell? ⟨X,1,none⟩=some (.int .i64 vals):=by rw[←hw1,←HX.out];simp[go_sem]
 rw[hw1,HX.out]
 clear hw1
 refine(impl_check _ F _ (HF.out.later B1.out) (HG.out.keep B1.out)).mono ?_
 rw[HC.out]
 rintro e w2 ⟨rfl,b2⟩
 have B2:Hid (Below w.heap.size w w2):=Bel.after B1.out b2
 replace x0:=Bel.keeps b2 x0
 replace x1:=Bel.keeps b2 x1
 have hs2:=B2.out.size
 clear b2
 by_cases hc:c=0
 ·subst hc
  have HW:Hid (FnShape F∧¬CopyIn F∧AllReached F):=check_well HC.out
  have HLO:Hid (L=usedOf F):=by show _=_;rw[←HL.out];unfold usedAll;rw[if_pos HC.out]
  obtain⟨vn,HVN⟩:∃vn:Nat,Hid ((vn:Int)=vals):=⟨vals.toNat,by show _=_;have:=HW.out.1.2.2.1;have:=HV.out;omega⟩
  have hv80:vn≤80:=by have h1:=HW.out.1.2.2.2.1;rw[HV.out,←HVN.out] at h1;omega
  rw[←HVN.out] at x1
  have hc0:((0:Int) != 0)=false:=by decide
  go_wp2_with fail
  refine(usedFacts_any _ F _ (HF.out.later B2.out |> fun h=>by rw[←HVN.out] at h;exact h) HW.out.1 HW.out.2.1 HW.out.2.2).mono ?_
  rintro e w3 ⟨mb,U,rfl,hU,hiff,b3⟩
  have HU:Hid (MapU w3 mb U):=hU
  have HIF:Hid (∀v,v∈U↔UsedV F v):=hiff
  have B3:Hid (Below w.heap.size w w3):=Bel.after B2.out b3
  replace x0:=Bel.keeps b3 x0
  replace x1:=Bel.keeps b3 x1
  have hs3:=B3.out.size
  have mk:=make_bools vn (by omega) w3
  clear hU hiff b3
  go_wp2_with fail
  clear mk
  obtain⟨w4,hw4⟩:∃W,w3.alloc (.cells (madeCells #[.bool false] vn) 4)=W:=⟨_,rfl⟩
  have B34:Hid (Below w3.heap.size w3 w4):=by show Below _ _ _;rw[←hw4];exact Bel.alloc _ _
  obtain⟨G,HGG⟩:∃G,Hid (w3.heap.size=G):=⟨_,rfl⟩
  have O4:Hid (OwnBools w4 w.heap.size (.slice (some ⟨G,0,none⟩) vn vn) (listB vn (fun i=>decide (i<0) && decide ((i:Int)∈U)))):=by
   have h9:=own_madeB (w:=w3) vn (by omega) hs3
   rw[hw4,HGG.out] at h9
   show OwnBools _ _ _ _
   simpa using h9
  rw[hw4,HGG.out]
  clear hw4 x0 x1
  go_loopw [17] (fun i wr=>∃k:Nat,k≤vn∧i = .int .i64 k∧OwnBools wr w.heap.size (.slice (some ⟨G,0,none⟩) vn vn) (listB vn (fun i=>decide (i<k) && decide ((i:Int)∈U)))∧Below G w4 wr∧MapU wr mb U) (fun i _=>vn-(intOf i).toNat)
  case atStart=>exact⟨0,Nat.zero_le _,rfl,O4.out,Below.refl _ _,HU.out.kept B34.out⟩
  case round=>
   obtain⟨k,hk,rfl,ho,hB,hM⟩:=hrel
   have HO:Hid (OwnBools wr w.heap.size (.slice (some ⟨G,0,none⟩) vn vn) (listB vn (fun i=>decide (i<k) && decide ((i:Int)∈U)))):=ho
   have HB:Hid (Below G w4 wr):=hB
   have HMR:Hid (MapU wr mb U):=hM
   by_cases hlt:(k:Int)<(vn:Int)
   ·have q0:=ho.cellAt (listB_len _ _) (i:=k) (by omega)
    have fz:=frozen_of_cells ho.heapOf k
    clear ho hB hM
    obtain⟨R,HR⟩:∃R,Hid (decide ((k:Int)∈U)=R):=⟨_,rfl⟩
    go_wp2_with fail
    refine(factUsed_any mb U (k:Int) _ HMR.out (by omega)).mono ?_
    rw[HR.out]
    rintro e w5 ⟨rfl,e5⟩
    have e5:=e5.symm
    subst e5
    go_wp2_with fail
    go_roundw
    case rel=>
     refine⟨k+1,by omega,by go_num,?_,HB.out.setCell (p:=⟨G,k,none⟩) (Nat.le_refl _) _,?_⟩
     ·have h9:=HO.out.setAt (d:=k) (by omega) R
      rw[listB_set] at h9
      have e:updB (fun i=>decide (i<k) && decide ((i:Int)∈U)) k R=(fun i=>decide (i<k+1) && decide ((i:Int)∈U)):=by
       funext i
       unfold updB
       by_cases e:i=k
       ·subst e
        rw[if_pos rfl,←HR.out]
        simp
       ·rw[if_neg e]
        have:(decide (i<k):Bool)=decide (i<k+1):=by simp;omega
        show(decide (i<k) && decide ((i:Int)∈U))=_
        rw[this]
      rw[e] at h9
      exact h9
     ·obtain⟨h1,h2,D,⟨es,ck,h3,h4⟩,h5⟩:=HMR.out
      have hne:mb≠G:=fun e=>by
       obtain⟨c9,h9⟩:=HO.out.heapOf
       rw[←e,h3] at h9
       cases h9
      exact⟨h1,h2,D,⟨es,ck,(heap_setCell_other _ _ _ _ hne).trans h3,h4⟩,h5⟩
    case measure=>simp[intOf];omega
   ·have hkv:k=vn:=by omega
    subst hkv
    clear ho hB hM
    go_wp2_with fail
    go_ret
    refine⟨_,rfl,?_,(Bel.after B3.out B34.out).trans (HB.out.mono (by have:=HGG.out;omega))⟩
    have h9:=HO.out
    have e:listB k (fun i=>decide (i<k) && decide ((i:Int)∈U))=L:=by
     rw[HLO.out]
     unfold usedOf listB
     have hk2:F.values.toNat=k:=by rw[HV.out,←HVN.out];simp
     rw[hk2]
     apply List.map_congr_left
     intro i hi
     have hi2:i<k:=by simpa using hi
     have:=HIF.out (i:Int)
     simp[hi2,this]
    rw[e] at h9
    exact h9
 ·have hc0:(c != 0)=true:=by simpa using hc
  obtain rfl : []=L:=by rw[←HL.out];unfold usedAll;rw[if_neg (by rw[HC.out];exact hc)]
  go_wp2_with fail
  go_ret
  exact⟨_,rfl,(ownBools_new w2).low hs2,B2.out.alloc hs2 _⟩
end Go.Proofs.YtinlfjgabkodcaaGreatDoor
