/- The way between blocks, as mathematics: who follows, who comes ahead. The program's Succs: the blocks that follow, for every program and every number. The model's Succs: the blocks that follow, for every program and every number. Preds, of the program and of the model: the blocks that come ahead, ascending. Preds of the model and of the program, whole. -/
import Derived.Test.YtinlfjgabkodcaaGreatDoorKSh1
import Derived.Test.YtinlfjgabkodcaaGreatDoorKSeq
import Derived.Test.YtinlfjgabkodcaaGreatDoorKSh5
import Derived.Maps.AppendAt
import Derived.Test.YtinlfjgabkodcaaGreatDoorKSh8
namespace Go.Proofs.YtinlfjgabkodcaaGreatDoor
open Go.ChangeShapes Go.WideShapes Go.ChangeAt Go.RowKit Go.Shelf
set_option linter.unusedVariables false
def succsT (t:TermD):List Int:=succsV t.k t.t t.e
def succsN (F:FnD)(b:Nat):List Int:=match F.blocks[b]? with | some x=>succsT x.term | none=>[]
theorem succsN_at {F:FnD}{b:Nat}{x:BlockD}(h:F.blocks[b]? = some x):succsN F b=succsT x.term:=by simp[succsN,h]
def predsUp (F:FnD)(b:Int)(k:Nat):List Int:=((List.range k).filter (fun p=>decide (b∈succsN F p))).map (fun(p:Nat)=>(p:Int))
def predsN (F:FnD)(b:Int):List Int:=predsUp F b F.blocks.length
theorem predsUp_yes {F:FnD}{b:Int}{k:Nat}(h:b∈succsN F k):predsUp F b (k+1)=predsUp F b k ++ [(k:Int)]:=by simp[predsUp,List.range_succ,h]
theorem predsUp_not {F:FnD}{b:Int}{k:Nat}(h:¬b∈succsN F k):predsUp F b (k+1)=predsUp F b k:=by simp[predsUp,List.range_succ,h]
theorem predsUp_len (F:FnD)(b:Int)(k:Nat):(predsUp F b k).length≤k:=by
 unfold predsUp
 rw[List.length_map]
 exact Nat.le_trans (List.length_filter_le _ _) (by simp)
open Classical in
noncomputable def predsOf (F:FnD)(b:Int):List Int:=if FnShape F∧0≤b∧b<F.blocks.length then predsN F b else []
theorem predsOf_yes {F:FnD}{b:Int}(h:FnShape F)(h0:0≤b)(h1:b<F.blocks.length):predsOf F b=predsN F b:=if_pos ⟨h,h0,h1⟩
theorem predsOf_no {F:FnD}{b:Int}(h:¬(FnShape F∧0≤b∧b<F.blocks.length)):predsOf F b = []:=if_neg h
theorem FnShape.term {F:FnD}(h:FnShape F){j:Nat}{x:BlockD}(hx:F.blocks[j]? = some x):termOkV (F.blocks.length:Int) F.values x.term.k x.term.a x.term.t x.term.e=true:=(h.2.2.2.2 j x hx).2.2.2.2
theorem succs_in {F:FnD}(h:FnShape F)(j:Nat):∀s∈succsN F j,0≤s∧s<F.blocks.length:=by
 intro s hs
 unfold succsN at hs
 split at hs
 ·rename_i x hx
  have ht:=h.term hx
  unfold termOkV at ht
  unfold succsT succsV at hs
  by_cases h1:x.term.k=1
  ·simp[h1,valIn] at ht hs
   subst hs
   exact ht.1.1
  ·by_cases h2:x.term.k=2
   ·simp[h2,valIn] at ht
    rw[if_neg h1,if_pos h2] at hs
    have hm:s=x.term.t∨s=x.term.e:=by
     split at hs
     ·simp at hs;exact .inl hs
     ·simpa using hs
    rcases hm with rfl | rfl
    ·exact ht.1.1
    ·exact ht.1.2
   ·simp[h1,h2] at hs
 ·simp at hs
theorem succsV_small2 (k t e:Int):(succsV k t e).length≤2:=by
 unfold succsV
 split
 ·simp
 ·split
  ·split <;> simp
  ·simp
theorem succsN_small (F:FnD)(b:Nat):(succsN F b).length≤2:=by
 unfold succsN
 split
 ·exact succsV_small2 _ _ _
 ·simp
end Go.Proofs.YtinlfjgabkodcaaGreatDoor
namespace Go.Proofs.YtinlfjgabkodcaaGreatDoor
open Go.ChangeShapes Go.WideShapes Go.ChangeAt Go.RowKit Go.Shelf
set_option linter.unusedVariables false
attribute [local go_sem] Oper.semAt_some
theorem info_int : (Tryz.prog.info? 3).map (fun i=>(i.zero,i.size,i.bytes))=some (some (.int .i64 0),1,8):=by kernel_rfl
theorem FnAt.end {w:World}{ba:Option Addr}{n bcap:Nat}{vals:Int}{F:FnD}(h:FnAt w (.agg #[.slice ba n bcap,.int .i64 vals]) F){j:Nat}(hj:j<n) :
  ∃bb off x,ba=some ⟨bb,off,none⟩∧F.blocks[j]? = some x∧w.cell? ⟨bb,off+j*6+2,none⟩=some (.int .i64 x.term.k)∧w.cell? ⟨bb,off+j*6+3,none⟩=some (.int .i64 x.term.a)∧w.cell? ⟨bb,off+j*6+4,none⟩=some (.int .i64 x.term.t)∧w.cell? ⟨bb,off+j*6+5,none⟩=some (.int .i64 x.term.e):=by
 obtain⟨bv,hv,a,cap,rfl,hm,hc⟩:=h
 simp at hv
 obtain⟨⟨rfl,rfl,rfl⟩,_⟩:=hv
 obtain⟨bb,off,rfl,_,hd⟩:=hc (by omega)
 have hx:F.blocks[j]? = some F.blocks[j]:=List.getElem?_eq_getElem hj
 obtain⟨pv,lv,_,_,h1,h2,h3,h4,_⟩:=hd j _ hx
 exact⟨bb,off,_,rfl,hx,h1,h2,h3,h4⟩
end Go.Proofs.YtinlfjgabkodcaaGreatDoor
namespace Go.Proofs.YtinlfjgabkodcaaGreatDoor
open Go.ChangeShapes Go.WideShapes Go.ChangeAt Go.RowKit Go.Shelf
set_option linter.unusedVariables false
theorem ownInts_one {w:World}{x:Int}{g lo:Nat}(hg:w.heap.size=g)(hl:lo≤g):OwnInts (w.alloc (.cells #[.int .i64 x] 3)) lo (.slice (some ⟨g,0,none⟩) 1 1) [x]:=by
 subst hg
 exact⟨rfl,.inr ⟨w.heap.size,1,#[.int .i64 x],rfl,hl,World.alloc_heap_new w _,Nat.le_refl _,by decide,rfl,rfl⟩⟩
theorem ownInts_two {w:World}{x y:Int}{g lo:Nat}(hg:w.heap.size=g)(hl:lo≤g):OwnInts (w.alloc (.cells #[.int .i64 x,.int .i64 y] 3)) lo (.slice (some ⟨g,0,none⟩) 2 2) [x,y]:=by
 subst hg
 exact⟨rfl,.inr ⟨w.heap.size,2,#[.int .i64 x,.int .i64 y],rfl,hl,World.alloc_heap_new w _,Nat.le_refl _,by decide,rfl,rfl⟩⟩
theorem ownInts_nil {w:World}{g lo:Nat}(hg:w.heap.size=g)(hl:lo≤g):OwnInts (w.alloc (.cells #[] 3)) lo (.slice (some ⟨g,0,none⟩) 0 0) []:=by
 subst hg
 exact(ownInts_new w).low hl
theorem FnAt.out {w:World}{v:Value}{F:FnD}(h:FnAt w v F){n:Nat}{vals:Int}(hn:F.blocks.length=n)(hv:F.values=vals):∃ba bcap,v = .agg #[.slice ba n bcap,.int .i64 vals]:=by
 obtain⟨bv,rfl,a,cap,rfl,_⟩:=h
 exact⟨a,cap,by rw[hn,hv]⟩
set_option maxHeartbeats 1000000 in
theorem l3Succs_any (v:Value)(F:FnD)(bn:Nat)(w:World)(hF:FnAt w v F)(hb:bn<F.blocks.length) :
  Calls Tryz.prog 114 #[v,.int .i64 (bn:Int)] w fun e w'=>GivesOwn w (succsN F bn) e w':=by
 obtain⟨n,HN⟩:∃n,Hid (F.blocks.length=n):=⟨_,rfl⟩
 obtain⟨vals,HV⟩:∃x,Hid (F.values=x):=⟨_,rfl⟩
 obtain⟨ba,bcap,rfl⟩:=hF.out HN.out HV.out
 rw[HN.out] at hb
 obtain⟨bb,off,x,rfl,hx,t0,t1,t2,t3⟩:=hF.end hb
 have hbb:bb<w.heap.size:=World.block_lt_of_cell? w _ t0
 rw[succsN_at hx]
 obtain⟨xp,xl,xk,xa,xt,xe⟩:=x
 dsimp only at t0 t1 t2 t3
 show Calls _ _ _ _ fun e w'=>GivesOwn w (succsV xk xt xe) e w'
 clear hx hF
 have hbi:(bn:Int)<(n:Int):=by omega
 by_cases h1:xk=1
 ·subst h1
  rw[succsV_jump]
  go_enter Tryz.func114,Tryz.ntmps114
  go_wp2
  go_ret
  exact⟨_,rfl,ownInts_one (by simp) (by omega),by repeat (first | exact Below.refl _ _ | apply Below.drew | refine Below.alloc ?_ (by simp <;> omega) _ | refine Below.setCell ?_ (by simp <;> omega) _)⟩
 ·have g1:(xk == 1)=false:=by simp[h1]
  by_cases h2:xk=2
  ·subst h2
   by_cases het:xe=xt
   ·subst het
    rw[succsV_one rfl]
    go_enter Tryz.func114,Tryz.ntmps114
    go_wp2
    go_ret
    exact⟨_,rfl,ownInts_one (by simp) (by omega),by repeat (first | exact Below.refl _ _ | apply Below.drew | refine Below.alloc ?_ (by simp <;> omega) _ | refine Below.setCell ?_ (by simp <;> omega) _)⟩
   ·rw[succsV_two het]
    have g3:(xt == xe)=false:=by simp;exact fun h=>het h.symm
    go_enter Tryz.func114,Tryz.ntmps114
    go_wp2
    go_ret
    exact⟨_,rfl,ownInts_two (by simp) (by omega),by repeat (first | exact Below.refl _ _ | apply Below.drew | refine Below.alloc ?_ (by simp <;> omega) _ | refine Below.setCell ?_ (by simp <;> omega) _)⟩
  ·have g2:(xk == 2)=false:=by simp[h2]
   rw[succsV_none h1 h2]
   go_enter Tryz.func114,Tryz.ntmps114
   go_wp2
   go_ret
   exact⟨_,rfl,ownInts_nil (by simp) (by omega),by repeat (first | exact Below.refl _ _ | apply Below.drew | refine Below.alloc ?_ (by simp <;> omega) _ | refine Below.setCell ?_ (by simp <;> omega) _)⟩
end Go.Proofs.YtinlfjgabkodcaaGreatDoor
namespace Go.Proofs.YtinlfjgabkodcaaGreatDoor
open Go.ChangeShapes Go.WideShapes Go.ChangeAt Go.RowKit Go.Shelf
set_option linter.unusedVariables false
theorem OwnInts.not_box {w:World}{lo:Nat}{v:Value}{l:List Int}(h:OwnInts w lo v l){B:Nat}{c:Array Value}{t:TypeId}{z:Nat × Nat}(hB:w.heap[B]? = some (.cells c t z))(ht:t≠3):some B≠v.ownBlock:=by
 rcases h.2 with ⟨rfl,_⟩ | ⟨g,cap,cur,rfl,_,hgb,_⟩
 ·simp[Value.ownBlock]
 ·intro e'
  obtain rfl:B=g:=by simpa [Value.ownBlock] using e'
  have:=hB.symm.trans hgb
  simp at this
  exact ht this.2.1
theorem OwnInts.next {w:World}{lo:Nat}{v:Value}{l:List Int}{x:Int}(h:w.ownsRow lo 3 1 v (l.length+1) (l.map (fun x=>Value.int .i64 x) ++ [Value.int .i64 x])):OwnInts w lo v (l ++ [x]):=by
 unfold OwnInts
 simpa using h
theorem OwnInts.grown {W w1:World}{lo:Nat}{v:Value}{l:List Int}(h:OwnInts W lo v l)(hlo:lo≤W.heap.size){o:Obj}(hg:(W.alloc o).grownBy w1 v.ownBlock):Below lo W w1:=by
 refine((Below.refl lo W).alloc hlo o).grown hg (by simp;omega) fun j ej=>?_
 rcases h.2 with ⟨rfl,_⟩ | ⟨g,cap,cur,rfl,hb,_,_⟩
 ·simp[Value.ownBlock] at ej
 ·obtain rfl:g=j:=by simpa [Value.ownBlock] using ej
  exact hb
set_option maxHeartbeats 1000000 in
theorem l3Has_any (v:Value)(l:List Int)(x:Int)(w:World)(hl:IntsAt w v l) :
  Calls Tryz.prog 131 #[v,.int .i64 x] w fun e w'=>e = .returned (.bool (decide (x∈l)))∧w'=w:=by
 obtain⟨a,cap,rfl,hm,hc⟩:=hl
 obtain⟨n,HN⟩:∃n,Hid (l.length=n):=⟨_,rfl⟩
 rw[HN.out] at hm hc ⊢
 have HC:Hid (0<n→∃b off,a=some ⟨b,off,none⟩∧∀i,i<n→w.cell? ⟨b,off+i,none⟩=some (.int .i64 (l.getD i 0))):=hc
 clear hc
 go_enter Tryz.func131,Tryz.ntmps131
 go_wp2
 go_loop [5] (fun i=>∃k:Nat,k≤n∧i = .int .i64 k∧∀j,j<k→l.getD j 0≠x) (fun i=>n-(intOf i).toNat)
 case atStart=>exact⟨0,Nat.zero_le _,rfl,fun j hj=>absurd hj (by omega)⟩
 case round=>
  obtain⟨k,hk,rfl,hd⟩:=hrel
  have HD:Hid (∀j,j<k→l.getD j 0≠x):=hd
  clear hd
  by_cases hlt2:(k:Int)<(n:Int)
  ·obtain⟨b,off,rfl,hc1⟩:=HC.out (by omega)
   have q1:=hc1 k (by omega)
   clear hc1
   obtain⟨y,HY⟩:∃y,Hid (l.getD k 0=y):=⟨_,rfl⟩
   rw[HY.out] at q1
   by_cases hyx:y=x
   ·subst hyx
    go_wp2
    go_ret
    have hkl:k<l.length:=by have:=HN.out;omega
    have e:l[k]=y:=by have:=HY.out;simpa [List.getD,hkl] using this
    have hmem:y∈l:=by rw[←e];exact List.getElem_mem hkl
    rw[decide_eq_true hmem]
    exact⟨rfl,rfl⟩
   ·have hb:(y == x)=false:=by simp[hyx]
    go_wp2
    go_round
    case rel=>
     refine⟨k+1,by omega,by go_num,fun j hj=>?_⟩
     by_cases hjk:j=k
     ·subst hjk
      rw[HY.out]
      exact hyx
     ·exact HD.out j (by omega)
    case measure=>simp[intOf];omega
  ·have hkn:k=n:=by omega
   subst hkn
   go_wp2
   go_ret
   have hno:¬x∈l:=fun hx=>by
    obtain⟨j,hj,e⟩:=List.getElem_of_mem hx
    exact HD.out j (by have:=HN.out;omega) (by simp[List.getD,hj,e])
   rw[decide_eq_false hno]
   exact⟨rfl,rfl⟩
set_option maxRecDepth 100000 in
set_option maxHeartbeats 4000000 in
theorem l3Preds_any (v:Value)(F:FnD)(b:Int)(w:World)(hF:FnAt w v F)(h16:F.blocks.length≤16) :
  Calls Tryz.prog 69 #[v,.int .i64 b] w fun e w'=>GivesOwn w (predsN F b) e w':=by
 have HF:Hid (FnAt w v F):=hF
 obtain⟨n,HN⟩:∃n,Hid (F.blocks.length=n):=⟨_,rfl⟩
 obtain⟨vals,HV⟩:∃x,Hid (F.values=x):=⟨_,rfl⟩
 obtain⟨ba,bcap,rfl⟩:=hF.out HN.out HV.out
 clear hF
 rw[HN.out] at h16
 obtain⟨i0,hi,hz0,hz1,hz2⟩:=info_parts info_int
 have hmx:100≤maxLen:=by decide
 go_enter Tryz.func69,Tryz.ntmps69
 go_wp2_with fail
 go_loopw [5,6] (fun s i wr=>∃k:Nat,k≤n∧i = .int .i64 k∧OwnInts wr w.heap.size s (predsUp F b k)∧Below w.heap.size w wr∧wr.heap[w.heap.size]? = some (.cells #[.slice ba n bcap,.int .i64 vals] 26 (0,0))) (fun _ i _=>n-(intOf i).toNat)
 case atStart=>
  refine⟨0,Nat.zero_le _,rfl,ownInts_nil (by simp) (by omega),by repeat (first | exact Below.refl _ _ | apply Below.drew | refine Below.alloc ?_ (by simp <;> omega) _ | refine Below.setCell ?_ (by simp <;> omega) _),?_⟩
  rw[Below.heap_alloc _ _ _ (by simp)]
  exact World.alloc_heap_new w _
 case round=>
  obtain⟨k,hk,rfl,ho,hB,hbx⟩:=hrel
  have c0:wr.cell? ⟨w.heap.size,0,none⟩=some (.slice ba n bcap):=by simp[World.cell?,hbx]
  have c1:wr.cell? ⟨w.heap.size,1,none⟩=some (.int .i64 vals):=by simp[World.cell?,hbx]
  have HO:Hid (OwnInts wr w.heap.size u5 (predsUp F b k)):=ho
  have HB:Hid (Below w.heap.size w wr):=hB
  have HX:Hid (wr.heap[w.heap.size]? = some (.cells #[.slice ba n bcap,.int .i64 vals] 26 (0,0))):=hbx
  have hpl:=predsUp_len F b k
  clear ho hB hbx
  by_cases hlt2:(k:Int)<(n:Int)
  ·go_wp2_with fail
   refine(l3Succs_any _ F k _ (HF.out.later HB.out) (by rw[HN.out];omega)).mono ?_
   rintro e w1 ⟨v1,rfl,o1,b1⟩
   have O1:Hid (OwnInts w1 wr.heap.size v1 (succsN F k)):=o1
   have HO1:Hid (OwnInts w1 w.heap.size u5 (predsUp F b k)):=HO.out.keep b1
   have HB2:Hid (Below w.heap.size w w1):=Bel.after HB.out b1
   have HX1:Hid (w1.heap[w.heap.size]? = some (.cells #[.slice ba n bcap,.int .i64 vals] 26 (0,0))):=(b1.block _ (Array.getElem?_eq_some_iff.1 HX.out).1).trans HX.out
   clear o1 b1 c0 c1
   go_wp2_with fail
   refine(l3Has_any v1 _ b _ O1.out.at).mono ?_
   rintro e w2 ⟨rfl,hw2⟩
   subst hw2
   by_cases hin:b∈succsN F k
   ·rw[decide_eq_true hin]
    go_wp2_with (at_builtin;refine wpList_append_own _ rfl _ _ 38 rfl w.heap.size 3 i0 (.int .i64 0) 1 8 Tryz.underlying38 hi hz0 hz1 hz2 rfl (by decide) _ _ _ rfl (World.ownsRow.alloc HO1.out _) ⟨w2.heap.size,0,none⟩ 1 1 [.int .i64 (k:Int)] rfl rfl (cell_one_new _ _ _) (by simp[Value.oneCell']) (by omega) (by omega) (by have:=HB2.out.size;simp;omega) ?_;intro v' wa hown' hgrow _;have HO':Hid (OwnInts wa w.heap.size v' (predsUp F b k ++ [(k:Int)])):=OwnInts.next hown';have HG:Hid (World.grownBy _ _ _):=hgrow;clear hown' hgrow)
    go_roundw
    case rel=>exact⟨k+1,by omega,by go_num,by rw[predsUp_yes hin];exact HO'.out,HB2.out.trans (HO1.out.grown HB2.out.size HG.out),(HG.out.block _ (by have:=(Array.getElem?_eq_some_iff.1 HX1.out).1;simp;omega) (HO1.out.not_box HX1.out (by decide))).trans ((Below.heap_alloc _ _ _ (Array.getElem?_eq_some_iff.1 HX1.out).1).trans HX1.out)⟩
    case measure=>simp[intOf];omega
   ·rw[decide_eq_false hin]
    go_wp2_with fail
    go_roundw
    case rel=>exact⟨k+1,by omega,by go_num,by rw[predsUp_not hin];exact HO1.out,HB2.out,HX1.out⟩
    case measure=>simp[intOf];omega
  ·have hkn:k=n:=by omega
   subst hkn
   go_wp2_with fail
   go_ret
   refine⟨_,rfl,?_,HB.out⟩
   unfold predsN
   rw[HN.out]
   exact HO.out
end Go.Proofs.YtinlfjgabkodcaaGreatDoor
namespace Go.Proofs.YtinlfjgabkodcaaGreatDoor
open Go.ChangeShapes Go.WideShapes Go.ChangeAt Go.RowKit Go.Shelf
set_option linter.unusedVariables false
set_option maxRecDepth 100000 in
set_option maxHeartbeats 4000000 in
theorem impl_preds (v:Value)(F:FnD)(b:Int)(w:World)(hF:FnAt w v F) :
  Calls Tryz.prog 145 #[v,.int .i64 b] w fun e w'=>GivesOwn w (predsOf F b) e w':=by
 have HF:Hid (FnAt w v F):=hF
 obtain⟨n,HN⟩:∃n,Hid (F.blocks.length=n):=⟨_,rfl⟩
 obtain⟨vals,HV⟩:∃x,Hid (F.values=x):=⟨_,rfl⟩
 obtain⟨ba,bcap,rfl⟩:=hF.out HN.out HV.out
 clear hF
 obtain⟨i0,hi,hz0,hz1,hz2⟩:=info_parts info_int
 have hmx:100≤maxLen:=by decide
 go_enter Tryz.func145,Tryz.ntmps145
 go_wp2_with fail
 refine(impl_shapeOk _ F _ (HF.out.later (by repeat (first | exact Below.refl _ _ | apply Below.drew | refine Below.alloc ?_ (by simp <;> omega) _ | refine Below.setCell ?_ (by simp <;> omega) _)))).mono ?_
 rintro e w1 ⟨s1,rfl,hs1,b1⟩
 have S1:Hid (s1=true↔FnShape F):=hs1
 have HB1:Hid (Below w.heap.size w w1):=Bel.after (by repeat (first | exact Below.refl _ _ | apply Below.drew | refine Below.alloc ?_ (by simp <;> omega) _ | refine Below.setCell ?_ (by simp <;> omega) _)) b1
 have c0:w1.cell? ⟨w.heap.size,0,none⟩=some (.slice ba n bcap):=Bel.keeps b1 (by simp[go_sem])
 have c1:w1.cell? ⟨w.heap.size,1,none⟩=some (.int .i64 vals):=Bel.keeps b1 (by simp[go_sem])
 have HX1:Hid (w1.heap[w.heap.size]? = some (.cells #[.slice ba n bcap,.int .i64 vals] 26 (0,0))):=by
  refine(b1.block _ (by simp <;> omega)).trans ?_
  rw[Below.heap_alloc _ _ _ (by simp)]
  exact World.alloc_heap_new w _
 have O1:Hid (OwnInts w1 w.heap.size (.slice (some ⟨w.heap.size+1,0,none⟩) 0 0) []):=OwnInts.keep (ownInts_nil (by simp) (by omega)) b1
 clear b1 hs1
 cases s1 with
 | false=>
  have HE:Hid (predsOf F b = []):=predsOf_no (fun h=>by have:=S1.out.2 h.1;cases this)
  go_wp2_with fail
  go_ret
  rw[HE.out]
  exact⟨_,rfl,O1.out,HB1.out⟩
 | true=>
  have hyes:Hid (FnShape F):=S1.out.1 rfl
  have h16:n≤16:=by have:=hyes.out.2.1;rw[HN.out] at this;exact this
  go_wp2_with fail
  refine(blockIn_any ba n bcap vals b _).mono ?_
  rintro e w2 ⟨rfl,b2⟩
  have HB2:Hid (Below w.heap.size w w2):=Bel.after HB1.out b2
  have HX2:Hid (w2.heap[w.heap.size]? = some (.cells #[.slice ba n bcap,.int .i64 vals] 26 (0,0))):=(b2.block _ (Array.getElem?_eq_some_iff.1 HX1.out).1).trans HX1.out
  have O2:Hid (OwnInts w2 w.heap.size (.slice (some ⟨w.heap.size+1,0,none⟩) 0 0) []):=O1.out.keep b2
  replace c0:=Bel.keeps b2 c0
  replace c1:=Bel.keeps b2 c1
  clear b2
  cases hv:valIn (n:Int) b with
  | false=>
   have hn2:¬(0≤b∧b<(n:Int)):=fun h=>by rw[valIn_yes h.1 h.2] at hv;cases hv
   have HE:Hid (predsOf F b = []):=predsOf_no (fun h=>hn2 ⟨h.2.1,by have:=h.2.2;rw[HN.out] at this;exact this⟩)
   clear hn2
   go_wp2_with fail
   go_ret
   rw[HE.out]
   exact⟨_,rfl,O2.out,HB2.out⟩
  | true=>
   obtain⟨hb0,hb1⟩:=valIn_iff.1 hv
   have HE:Hid (predsOf F b=predsN F b):=predsOf_yes hyes.out hb0 (by rw[HN.out];exact hb1)
   clear hv
   go_wp2_with fail
   go_loopw [5,21] (fun s i wr=>∃k:Nat,k≤n∧i = .int .i64 k∧OwnInts wr w.heap.size s (predsUp F b k)∧Below w.heap.size w wr∧wr.heap[w.heap.size]? = some (.cells #[.slice ba n bcap,.int .i64 vals] 26 (0,0))) (fun _ i _=>n-(intOf i).toNat)
   case atStart=>exact⟨0,Nat.zero_le _,rfl,O2.out,HB2.out,HX2.out⟩
   case round=>
    obtain⟨k,hk,rfl,ho,hB,hbx⟩:=hrel
    have c0:wr.cell? ⟨w.heap.size,0,none⟩=some (.slice ba n bcap):=by simp[World.cell?,hbx]
    have c1:wr.cell? ⟨w.heap.size,1,none⟩=some (.int .i64 vals):=by simp[World.cell?,hbx]
    have HO:Hid (OwnInts wr w.heap.size u5 (predsUp F b k)):=ho
    have HB:Hid (Below w.heap.size w wr):=hB
    have HX:Hid (wr.heap[w.heap.size]? = some (.cells #[.slice ba n bcap,.int .i64 vals] 26 (0,0))):=hbx
    have hpl:=predsUp_len F b k
    clear ho hB hbx
    by_cases hlt2:(k:Int)<(n:Int)
    ·obtain⟨bb,off,x,rfl,hx,t0,t1,t2,t3⟩:=(HF.out.later HB.out).end (j:=k) (by omega)
     have HS:Hid (succsN F k=succsT x.term):=succsN_at hx
     obtain⟨xp,xl,xk,xa,xt,xe⟩:=x
     dsimp only at t0 t1 t2 t3
     clear hx
     go_wp2_with fail
     refine(goesTo_any xk xa xt xe b _).mono ?_
     rintro e w3 ⟨rfl,b3⟩
     have HO1:Hid (OwnInts w3 w.heap.size u5 (predsUp F b k)):=HO.out.keep b3
     have HB3:Hid (Below w.heap.size w w3):=Bel.after HB.out b3
     have HX3:Hid (w3.heap[w.heap.size]? = some (.cells #[.slice (some ⟨bb,off,none⟩) n bcap,.int .i64 vals] 26 (0,0))):=(b3.block _ (Array.getElem?_eq_some_iff.1 HX.out).1).trans HX.out
     clear b3 c0 c1 t0 t1 t2 t3
     have hse:succsV xk xt xe=succsN F k:=HS.out.symm
     rw[hse]
     by_cases hin:b∈succsN F k
     ·rw[decide_eq_true hin]
      go_wp2_with (at_builtin;refine wpList_append_own _ rfl _ _ 38 rfl w.heap.size 3 i0 (.int .i64 0) 1 8 Tryz.underlying38 hi hz0 hz1 hz2 rfl (by decide) _ _ _ rfl (World.ownsRow.alloc HO1.out _) ⟨w3.heap.size,0,none⟩ 1 1 [.int .i64 (k:Int)] rfl rfl (cell_one_new _ _ _) (by simp[Value.oneCell']) (by omega) (by omega) (by have:=HB3.out.size;simp;omega) ?_;intro v' wa hown' hgrow _;have HO':Hid (OwnInts wa w.heap.size v' (predsUp F b k ++ [(k:Int)])):=OwnInts.next hown';have HG:Hid (World.grownBy _ _ _):=hgrow;clear hown' hgrow)
      go_roundw
      case rel=>exact⟨k+1,by omega,by go_num,by rw[predsUp_yes hin];exact HO'.out,HB3.out.trans (HO1.out.grown HB3.out.size HG.out),(HG.out.block _ (by have:=(Array.getElem?_eq_some_iff.1 HX3.out).1;simp;omega) (HO1.out.not_box HX3.out (by decide))).trans ((Below.heap_alloc _ _ _ (Array.getElem?_eq_some_iff.1 HX3.out).1).trans HX3.out)⟩
      case measure=>simp[intOf];omega
     ·rw[decide_eq_false hin]
      go_wp2_with fail
      go_roundw
      case rel=>exact⟨k+1,by omega,by go_num,by rw[predsUp_not hin];exact HO1.out,HB3.out,HX3.out⟩
      case measure=>simp[intOf];omega
    ·have hkn:k=n:=by omega
     subst hkn
     go_wp2_with fail
     go_ret
     rw[HE.out]
     refine⟨_,rfl,?_,HB.out⟩
     unfold predsN
     rw[HN.out]
     exact HO.out
end Go.Proofs.YtinlfjgabkodcaaGreatDoor
