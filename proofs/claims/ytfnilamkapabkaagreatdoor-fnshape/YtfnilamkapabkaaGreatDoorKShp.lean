/- Doms, of the program and of the model. What a program costs: the program's Cost and the model's Cost tell what the document says, for every program. -/
import Derived.Test.YtfnilamkapabkaaGreatDoorKRound
import Derived.Test.YtfnilamkapabkaaGreatDoorKTab
import Derived.Test.YtfnilamkapabkaaGreatDoorKMake
import Derived.Test.YtfnilamkapabkaaGreatDoorKSh5
import Derived.Test.YtfnilamkapabkaaGreatDoorKLDoms
import Derived.Test.YtfnilamkapabkaaGreatDoorKSh8
import Derived.Test.YtfnilamkapabkaaGreatDoorKGraph
import Derived.Deep.RegionHeld3
namespace Go.Proofs.YtfnilamkapabkaaGreatDoor
open Go.ChangeShapes Go.WideShapes Go.ChangeAt Go.RowKit Go.Shelf
set_option linter.unusedVariables false
def OwnLists (w:World)(lo:Nat)(v:Value)(D:List (List Int)):Prop := ∃g us,v = .slice (some ⟨g,0,none⟩) D.length D.length∧OwnRows w lo g D.length us (fun i=>D.getD i [])
def GivesLists (w:World)(D:List (List Int))(e:Ending)(w':World):Prop := ∃v,e = .returned v∧OwnLists w' w.heap.size v D∧Below w.heap.size w w'
theorem ownLists_new {w:World}{g lo:Nat}(hg:w.heap.size=g)(hl:lo≤g):OwnLists (w.alloc (.cells #[] 29)) lo (.slice (some ⟨g,0,none⟩) 0 0) []:=by
 subst hg
 exact⟨w.heap.size,#[],rfl,World.alloc_heap_new w _,rfl,hl,fun i hi=>absurd hi (by simp),fun i j hi=>absurd hi (by simp)⟩
theorem ownLists_rows {w:World}{lo g n:Nat}{us:Array Value}{ls:Nat→List Int}(h:OwnRows w lo g n us ls):OwnLists w lo (.slice (some ⟨g,0,none⟩) n n) ((List.range n).map ls):=by
 refine⟨g,us,by simp,?_⟩
 rw[List.length_map,List.length_range]
 exact h.congr (fun i hi=>by simp[List.getD,hi])
theorem wpList_load_rowOf {ops:Array Oper}{rest:List Oper}{o:Oper}{a:Act}{w:World}{Q:Exit→Act→World→Prop}(hg:o.guard=none)(x:Operand)(ho:o.op = .load 93 x)(B b:Nat)(hb:b<16)(hx:a.eval x = .pointer (some ⟨B,b*16,none⟩))(T:Tab)(hT:TabAt w B T)
  (h:wpList Tryz.prog ops Q rest (a.put o.dst (setV (T b))) w):wpList Tryz.prog ops Q (o :: rest) a w :=
 wpList_load_mid hg 93 x ho B (b*16) hx (rowC (T b)) _ (hT.row hb) Tryz.underlying93 rfl (by rw[rowC_len];exact info_set) h
theorem listUp_doms {F:FnD}(hS:FnShape F)(b:Nat):listUp (fun a=>domB F a b) 16=domsN F b:=by
 have h16:F.blocks.length≤16:=hS.2.1
 unfold listUp domsN domsUp
 congr 1
 have key:∀d,(List.range (F.blocks.length+d)).filter (fun a=>domB F a b)=(List.range F.blocks.length).filter (fun a=>domB F a b):=by
  intro d
  induction d with
  | zero=>rfl
  | succ d ih=>
   have hf:domB F (F.blocks.length+d) b=false:=by
    cases h:domB F (F.blocks.length+d) b with
    | false=>rfl
    | true=>
     have:=(dom_lt hS (domB_iff.1 h)).1
     omega
   rw[←Nat.add_assoc,List.range_succ,List.filter_append,ih]
   simp[hf]
 have:=key (16-F.blocks.length)
 rw[Nat.add_sub_cancel' h16] at this
 exact this
set_option maxRecDepth 100000 in
set_option maxHeartbeats 4000000 in
theorem impl_doms (v:Value)(F:FnD)(w:World)(hF:FnAt w v F) :
  Calls Tryz.prog 14 #[v] w fun e w'=>GivesLists w (domsOf F) e w':=by
 have HF:Hid (FnAt w v F):=hF
 obtain⟨n,HN⟩:∃n,Hid (F.blocks.length=n):=⟨_,rfl⟩
 obtain⟨vals,HV⟩:∃x,Hid (F.values=x):=⟨_,rfl⟩
 obtain⟨ba,bcap,rfl⟩:=hF.out HN.out HV.out
 clear hF
 go_enter Tryz.func14,Tryz.ntmps14
 go_wp2_with fail
 refine(impl_shapeOk _ F _ (HF.out.later (by repeat (first | exact Below.refl _ _ | apply Below.drew | refine Below.alloc ?_ (by simp <;> omega) _ | refine Below.setCell ?_ (by simp <;> omega) _)))).mono ?_
 rintro e w1 ⟨s1,rfl,hs1,b1⟩
 have S1:Hid (s1=true↔FnShape F):=hs1
 have B1:Hid (Below w.heap.size w w1):=Bel.after (by repeat (first | exact Below.refl _ _ | apply Below.drew | refine Below.alloc ?_ (by simp <;> omega) _ | refine Below.setCell ?_ (by simp <;> omega) _)) b1
 have c0:w1.cell? ⟨w.heap.size,0,none⟩=some (.slice ba n bcap):=Bel.keeps b1 (by simp[go_sem])
 have c1:w1.cell? ⟨w.heap.size,1,none⟩=some (.int .i64 vals):=Bel.keeps b1 (by simp[go_sem])
 clear b1 hs1
 cases s1 with
 | false=>
  have HE:Hid (domsOf F = []):=domsOf_no (fun h=>by have:=S1.out.2 h;cases this)
  go_wp2_with fail
  go_ret
  rw[HE.out]
  exact⟨_,rfl,ownLists_new rfl B1.out.size,Bel.after B1.out (by repeat (first | exact Below.refl _ _ | apply Below.drew | refine Below.alloc ?_ (by simp <;> omega) _ | refine Below.setCell ?_ (by simp <;> omega) _))⟩
 | true=>
  have hyes:Hid (FnShape F):=S1.out.1 rfl
  have h16:n≤16:=by rw[←HN.out];exact hyes.out.2.1
  have HE:Hid (domsOf F=(List.range n).map (domsN F)):=by rw[←HN.out];exact domsOf_yes hyes.out
  have hmr:=make_rows n (by omega)
  go_wp2_with fail
  refine(domsOf_any _ F _ (HF.out.later B1.out) hyes.out).mono ?_
  rintro e w2 ⟨rfl,b2⟩
  have B2:Hid (Below w.heap.size w w2):=Bel.after B1.out b2
  replace c0:=Bel.keeps b2 c0
  replace c1:=Bel.keeps b2 c1
  clear b2
  go_wp2_with (first
    | (refine wpList_store_tab rfl _ _ rfl w2.heap.size rfl (fun _ _=>false) (fun b a=>domB F a b) rfl (tab_alloc w2) ?_;obtain⟨w4,hw4⟩:∃w4,(w2.alloc (.cells Tryz.zeroCells95 95)).setRow w2.heap.size (tabC (fun b a=>domB F a b)).toArray=w4:=⟨_,rfl⟩;have b4:Below w2.heap.size w2 w4:=(by rw[←hw4];exact below_setRow (Bel.alloc _ _) (Nat.le_refl _) _);have T4:Hid (TabAt w4 w2.heap.size (fun b a=>domB F a b)):=(by rw[←hw4];exact(tab_alloc w2).put);have B4:Hid (Below w.heap.size w w4):=Bel.after B2.out b4;have d0:=Bel.keeps b4 c0;have d1:=Bel.keeps b4 c1;rw[hw4];clear hw4 b4 c0 c1)
    | fail)
  obtain⟨w5,hw5⟩:∃w5,w4.alloc (.cells (madeCells #[.slice none 0 0] n) 29)=w5:=⟨_,rfl⟩
  have R5:Hid (OwnRows w5 w4.heap.size w4.heap.size n (madeCells #[.slice none 0 0] n) (fun _=>[])):=by rw[←hw5];exact ownRows_new rfl (Nat.le_refl _)
  have T5:Hid (TabAt w5 w2.heap.size (fun b a=>domB F a b)):=by rw[←hw5];exact T4.out.keep (Bel.alloc _ _)
  have B5:Hid (Below w4.heap.size w4 w5):=by rw[←hw5];exact Bel.alloc _ _
  have hT4:w2.heap.size<w4.heap.size:=T4.out.lt
  rw[hw5]
  clear hw5 hmr d0 d1
  go_loopw [18] (fun i wr=>∃(k:Nat) (us:Array Value),k≤n∧i = .int .i64 k∧OwnRows wr w4.heap.size w4.heap.size n us (fun i=>if i<k then domsN F i else [])∧TabAt wr w2.heap.size (fun b a=>domB F a b)∧Below w4.heap.size w4 wr) (fun i _=>n-(intOf i).toNat)
  case atStart=>exact⟨0,_,Nat.zero_le _,rfl,R5.out.congr (fun i _=>by simp),T5.out,B5.out⟩
  case round=>
   obtain⟨k,us,hk,rfl,hR,hT,hB⟩:=hrel
   have HR:Hid (OwnRows wr w4.heap.size w4.heap.size n us (fun i=>if i<k then domsN F i else [])):=hR
   have HT:Hid (TabAt wr w2.heap.size (fun b a=>domB F a b)):=hT
   have HB:Hid (Below w4.heap.size w4 wr):=hB
   clear hR hT hB
   by_cases hlt:(k:Int)<(n:Int)
   ·have hkn:k<n:=by omega
    have HL:Hid (listUp (fun a=>domB F a k) 16=domsN F k):=listUp_doms hyes.out k
    go_wp2_with (refine wpList_load_rowOf rfl _ rfl w2.heap.size k (by omega) rfl _ HT.out ?_)
    refine(list_any (fun a=>domB F a k) _).mono ?_
    rw[HL.out]
    rintro e w6 ⟨v6,rfl,o6,b6⟩
    have O6:Hid (OwnInts w6 wr.heap.size v6 (domsN F k)):=o6
    have R6:Hid (OwnRows w6 w4.heap.size w4.heap.size n us (fun i=>if i<k then domsN F i else [])):=HR.out.keep b6
    have T6:Hid (TabAt w6 w2.heap.size (fun b a=>domB F a b)):=HT.out.keep b6
    have B6:Hid (Below w4.heap.size w4 w6):=Bel.after HB.out b6
    have q1:=R6.out.cell hkn
    have q2:=R6.out.frozen k
    obtain⟨ua,ucap,hu,_⟩:=o6.row
    obtain⟨ul,HUL⟩:∃ul,Hid ((domsN F k).length=ul):=⟨_,rfl⟩
    rw[HUL.out] at hu
    subst hu
    have HP:Hid (OwnRows (w6.setCell ⟨w4.heap.size,k,none⟩ (.slice ua ul ucap)) w4.heap.size w4.heap.size n (us.setIfInBounds k (.slice ua ul ucap)) (fun i=>if i=k then domsN F k else if i<k then domsN F i else [])) :=
     R6.out.put hkn (O6.out.low HB.out.size) (fun i hi _ b hb hb2=>by
      have h1:=(World.ownsRow.lt (HR.out.row i hi) b hb).2
      have h2:=(World.ownsRow.lt O6.out b hb2).1
      omega)
    have HT7:Hid (TabAt (w6.setCell ⟨w4.heap.size,k,none⟩ (.slice ua ul ucap)) w2.heap.size (fun b a=>domB F a b)):=(Below.heap_setCell _ _ _ _ (by show w2.heap.size≠w4.heap.size;omega)).trans T6.out
    clear o6 b6
    go_wp2_with fail
    go_roundw
    case rel=>
     refine⟨k+1,_,by omega,by go_num,HP.out.congr (fun i _=>?_),HT7.out,B6.out.setCell (p:=⟨w4.heap.size,k,none⟩) (Nat.le_refl _) _⟩
     by_cases e:i=k
     ·subst e
      simp
     ·have e2:i<k+1↔i<k:=by omega
      simp[e,e2]
    case measure=>simp[intOf];omega
   ·have hkn:k=n:=by omega
    subst hkn
    go_wp2_with fail
    go_ret
    rw[HE.out]
    exact⟨_,rfl,ownLists_rows ((HR.out.congr (fun i hi=>by simp[hi])).lower B4.out.size),Bel.after B4.out HB.out⟩
theorem FnAt.block {w:World}{ba:Option Addr}{n bcap:Nat}{vals:Int}{F:FnD}(h:FnAt w (.agg #[.slice ba n bcap,.int .i64 vals]) F){k:Nat}{x:BlockD}(hn:F.blocks.length=n)(hk:k<n)(hx:F.blocks[k]? = some x):∃b off,ba=some ⟨b,off,none⟩∧BlockAt 0 w b (off+k*6) x:=by
 obtain⟨bv,he,a0,cap0,hbv,_,hc⟩:=h
 have e1:(.slice ba n bcap:Value)=bv:=by simp at he;exact he.1
 rw[hbv] at e1
 simp at e1
 obtain⟨b,off,hb,_,hel⟩:=hc (by omega)
 exact⟨b,off,e1.1.trans hb,hel k x hx⟩
def costN (l:List BlockD):Nat:=(l.map (fun b=>b.phis.length+b.list.length)).sum
open Classical in
noncomputable def costOf (F:FnD):Int:=if FnShape F then(costN F.blocks:Int) else -1
theorem costN_next {l:List BlockD}{k:Nat}{x:BlockD}(h:l[k]? = some x):costN (l.take (k+1))=costN (l.take k)+(x.phis.length+x.list.length):=by
 have e:l.take (k+1)=l.take k ++ [x]:=by rw[List.take_add_one,h];rfl
 rw[e]
 simp[costN]
theorem costN_small {F:FnD}(hS:FnShape F):∀k,k≤F.blocks.length→costN (F.blocks.take k)≤k*48
 | 0,_=>by simp[costN]
 | k+1,hk=>by
  obtain⟨x,hx⟩:∃x,F.blocks[k]? = some x:=⟨_,List.getElem?_eq_getElem (by omega)⟩
  have h1:=costN_small hS k (by omega)
  have h2:=hS.2.2.2.2 k x hx
  rw[costN_next hx]
  have:=h2.1
  have:=h2.2.1
  omega
set_option maxRecDepth 100000 in
set_option maxHeartbeats 4000000 in
theorem impl_cost (v:Value)(F:FnD)(w:World)(hF:FnAt w v F) :
  Calls Tryz.prog 16 #[v] w fun e w'=>e = .returned (.int .i64 (costOf F))∧Below w.heap.size w w':=by
 have HF:Hid (FnAt w v F):=hF
 obtain⟨n,HN⟩:∃n,Hid (F.blocks.length=n):=⟨_,rfl⟩
 obtain⟨vals,HV⟩:∃x,Hid (F.values=x):=⟨_,rfl⟩
 obtain⟨ba,bcap,rfl⟩:=hF.out HN.out HV.out
 clear hF
 obtain⟨r,HR⟩:∃r,Hid (costOf F=r):=⟨_,rfl⟩
 rw[HR.out]
 go_enter Tryz.func16,Tryz.ntmps16
 go_wp2_with fail
 refine(impl_shapeOk _ F _ (HF.out.later (Bel.alloc _ _))).mono ?_
 rintro e w1 ⟨t,rfl,ht,b1⟩
 have c0:=box_cell b1 0
 have c1:=box_cell b1 1
 simp at c0 c1
 have B1:Hid (Below w.heap.size w w1):=Bel.after (Bel.alloc _ _) b1
 have HT:Hid (t=true↔FnShape F):=ht
 clear b1 ht
 generalize w.heap.size=FB at c0 c1 ⊢
 cases t with
 | false=>
  have hno:¬FnShape F:=fun h=>by have:=HT.out.2 h;cases this
  have HO:Hid (r = -1):=by show r = -1;rw[←HR.out];exact if_neg hno
  clear hno
  go_wp2_with fail
  go_ret
  rw[HO.out]
  exact⟨rfl,B1.out⟩
 | true=>
  have HS:Hid (FnShape F):=HT.out.1 rfl
  have HO:Hid (r=(costN F.blocks:Int)):=by show r=_;rw[←HR.out];exact if_pos HS.out
  have hn16:n≤16:=by have:=HS.out.2.1;have:=HN.out;omega
  have F1:Hid (FnAt w1 (.agg #[.slice ba n bcap,.int .i64 vals]) F):=HF.out.later B1.out
  go_wp2_with fail
  go_loopw [3,12] (fun c i wr=>∃(k m:Nat),k≤n∧i = .int .i64 (k:Int)∧c = .int .i64 (m:Int)∧m=costN (F.blocks.take k)∧Below w1.heap.size w1 wr) (fun _ i _=>n-(intOf i).toNat)
  case atStart=>exact⟨0,0,Nat.zero_le _,rfl,rfl,by simp[costN],Below.refl _ _⟩
  case round=>
   obtain⟨k,m,hk,rfl,rfl,hm,hb⟩:=hrel
   have HM:Hid (m=costN (F.blocks.take k)):=hm
   have HB:Hid (Below w1.heap.size w1 wr):=hb
   clear hm hb
   by_cases hlt:(k:Int)<(n:Int)
   ·have hkn:k<n:=by omega
    obtain⟨x,hx⟩:∃x,F.blocks[k]? = some x:=⟨_,List.getElem?_eq_getElem (by have:=HN.out;omega)⟩
    obtain⟨b,off,rfl,hat⟩:=F1.out.block HN.out hkn hx
    obtain⟨pv,lv,b0,b1,b2,b3,b4,b5,hps,hls⟩:=hat
    obtain⟨pa,pcap,rfl,hpm,_⟩:=hps
    obtain⟨la,lcap,rfl,hlm,_⟩:=hls
    have d0:=Bel.keeps HB.out b0
    have d1:=Bel.keeps HB.out b1
    have d2:=Bel.keeps HB.out b2
    have d3:=Bel.keeps HB.out b3
    have d4:=Bel.keeps HB.out b4
    have d5:=Bel.keeps HB.out b5
    have hbw:b<wr.heap.size:=World.block_lt_of_cell? wr _ d0
    obtain⟨np,HNP⟩:∃n,Hid (x.phis.length=n):=⟨_,rfl⟩
    obtain⟨nl,HNL⟩:∃n,Hid (x.list.length=n):=⟨_,rfl⟩
    rw[HNP.out] at d0 hpm
    rw[HNL.out] at d1 hlm
    have hbo:=HS.out.2.2.2.2 k x hx
    have hnp:np≤24:=by have:=hbo.1;have:=HNP.out;omega
    have hnl:nl≤24:=by have:=hbo.2.1;have:=HNL.out;omega
    have hm8:m≤1000:=by have:=costN_small HS.out k (by have:=HN.out;omega);have:=HM.out;omega
    have HX:Hid (F.blocks[k]? = some x):=hx
    clear b0 b1 b2 b3 b4 b5 hbo hx
    go_wp2_with fail
    go_roundw
    case rel=>
     refine⟨k+1,m+(np+nl),by omega,by go_num,by go_num,?_,HB.out.alloc HB.out.size _⟩
     rw[costN_next HX.out,←HM.out,HNP.out,HNL.out]
    case measure=>simp[intOf];omega
   ·have hkn:k=n:=by omega
    go_wp2_with fail
    go_ret
    have e:F.blocks.take k=F.blocks:=List.take_of_length_le (by have:=HN.out;omega)
    have h9:=HM.out
    rw[e] at h9
    rw[HO.out,←h9]
    exact⟨rfl,Bel.after B1.out HB.out⟩
end Go.Proofs.YtfnilamkapabkaaGreatDoor
