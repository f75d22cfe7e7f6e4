/- The way between blocks, as mathematics: who follows, who comes ahead. The program's Succs: the blocks that follow, for every program and every number. The model's Succs: the blocks that follow, for every program and every number. Preds, of the program and of the model: the blocks that come ahead, ascending. Preds of the model and of the program, whole. -/
import Derived.Test.YtfnilamkapabkaaGreatDoorKSh1
import Derived.Test.YtfnilamkapabkaaGreatDoorKSeq
import Derived.Test.YtfnilamkapabkaaGreatDoorKSh5
import Derived.Maps.AppendAt
import Derived.Test.YtfnilamkapabkaaGreatDoorKSh8
namespace Go.Proofs.YtfnilamkapabkaaGreatDoor
open Go.ChangeShapes Go.WideShapes Go.ChangeAt Go.RowKit Go.Shelf
set_option linter.unusedVariables false
def succsT (t:TermD):List Int:=succsV t.k t.t t.e
def succsN (F:FnD)(b:Nat):List Int:=match F.blocks[b]? with | some x=>succsT x.term | none=>[]
theorem succsN_at {F:FnD}{b:Nat}{x:BlockD}(h:F.blocks[b]? = some x):succsN F b=succsT x.term:=by simp[succsN,h]
open Classical in
noncomputable def succsOf (F:FnD)(b:Int):List Int:=if FnShape F∧0≤b∧b<F.blocks.length then succsN F b.toNat else []
theorem succsOf_yes {F:FnD}{b:Int}(h:FnShape F)(h0:0≤b)(h1:b<F.blocks.length):succsOf F b=succsN F b.toNat:=if_pos ⟨h,h0,h1⟩
theorem succsOf_no {F:FnD}{b:Int}(h:¬(FnShape F∧0≤b∧b<F.blocks.length)):succsOf F b = []:=if_neg h
def predsUp (F:FnD)(b:Int)(k:Nat):List Int:=((List.range k).filter (fun p=>decide (b∈succsN F p))).map (fun(p:Nat)=>(p:Int))
def predsN (F:FnD)(b:Int):List Int:=predsUp F b F.blocks.length
theorem predsUp_yes {F:FnD}{b:Int}{k:Nat}(h:b∈succsN F k):predsUp F b (k+1)=predsUp F b k ++ [(k:Int)]:=by simp[predsUp,List.range_succ,h]
theorem predsUp_not {F:FnD}{b:Int}{k:Nat}(h:¬b∈succsN F k):predsUp F b (k+1)=predsUp F b k:=by simp[predsUp,List.range_succ,h]
theorem predsUp_len (F:FnD)(b:Int)(k:Nat):(predsUp F b k).length≤k:=by
 unfold predsUp
 rw[List.length_map]
 exact Nat.le_trans (List.length_filter_le _ _) (by simp)
open Classical in
noncomputable def predsOf (F:FnD)(b:Int):List Int:=if FnShape F∧0≤b∧b<F.blocks.length then predsN F b else []
theorem predsOf_yes {F:FnD}{b:Int}(h:FnShape F)(h0:0≤b)(h1:b<F.blocks.length):predsOf F b=predsN F b:=if_pos ⟨h,h0,h1⟩
theorem predsOf_no {F:FnD}{b:Int}(h:¬(FnShape F∧0≤b∧b<F.blocks.length)):predsOf F b = []:=if_neg h
theorem FnShape.term {F:FnD}(h:FnShape F){j:Nat}{x:BlockD}(hx:F.blocks[j]? = some x):termOkV (F.blocks.length:Int) F.values x.term.k x.term.a x.term.t x.term.e=true:=(h.2.2.2.2 j x hx).2.2.2.2
theorem succs_in {F:FnD}(h:FnShape F)(j:Nat):∀s∈succsN F j,0≤s∧s<F.blocks.length:=by
 intro s hs
 unfold succsN at hs
 split at hs
 ·rename_i x hx
  have ht:=h.term hx
  unfold termOkV at ht
  unfold succsT succsV at hs
  by_cases h1:x.term.k=1
  ·simp[h1,valIn] at ht hs
   subst hs
   exact ht.1.1
  ·by_cases h2:x.term.k=2
   ·simp[h2,valIn] at ht
    rw[if_neg h1,if_pos h2] at hs
    have hm:s=x.term.t∨s=x.term.e:=by
     split at hs
     ·simp at hs;exact .inl hs
     ·simpa using hs
    rcases hm with rfl | rfl
    ·exact ht.1.1
    ·exact ht.1.2
   ·simp[h1,h2] at hs
 ·simp at hs
theorem succsV_small2 (k t e:Int):(succsV k t e).length≤2:=by
 unfold succsV
 split
 ·simp
 ·split
  ·split <;> simp
  ·simp
theorem succsN_small (F:FnD)(b:Nat):(succsN F b).length≤2:=by
 unfold succsN
 split
 ·exact succsV_small2 _ _ _
 ·simp
end Go.Proofs.YtfnilamkapabkaaGreatDoor
namespace Go.Proofs.YtfnilamkapabkaaGreatDoor
open Go.ChangeShapes Go.WideShapes Go.ChangeAt Go.RowKit Go.Shelf
set_option linter.unusedVariables false
attribute [local go_sem] Oper.semAt_some
theorem info_int : (Tryz.prog.info? 3).map (fun i=>(i.zero,i.size,i.bytes))=some (some (.int .i64 0),1,8):=by kernel_rfl
theorem FnAt.end {w:World}{ba:Option Addr}{n bcap:Nat}{vals:Int}{F:FnD}(h:FnAt w (.agg #[.slice ba n bcap,.int .i64 vals]) F){j:Nat}(hj:j<n) :
  ∃bb off x,ba=some ⟨bb,off,none⟩∧F.blocks[j]? = some x∧w.cell? ⟨bb,off+j*6+2,none⟩=some (.int .i64 x.term.k)∧w.cell? ⟨bb,off+j*6+3,none⟩=some (.int .i64 x.term.a)∧w.cell? ⟨bb,off+j*6+4,none⟩=some (.int .i64 x.term.t)∧w.cell? ⟨bb,off+j*6+5,none⟩=some (.int .i64 x.term.e):=by
 obtain⟨bv,hv,a,cap,rfl,hm,hc⟩:=h
 simp at hv
 obtain⟨⟨rfl,rfl,rfl⟩,_⟩:=hv
 obtain⟨bb,off,rfl,_,hd⟩:=hc (by omega)
 have hx:F.blocks[j]? = some F.blocks[j]:=List.getElem?_eq_getElem hj
 obtain⟨pv,lv,_,_,h1,h2,h3,h4,_⟩:=hd j _ hx
 exact⟨bb,off,_,rfl,hx,h1,h2,h3,h4⟩
set_option maxRecDepth 100000 in
set_option maxHeartbeats 4000000 in
theorem impl_succs (v:Value)(F:FnD)(b:Int)(w:World)(hF:FnAt w v F) :
  Calls Tryz.prog 18 #[v,.int .i64 b] w fun e w'=>GivesOwn w (succsOf F b) e w':=by
 have HF:Hid (FnAt w v F):=hF
 obtain⟨bv,hv0,hb⟩:=hF
 obtain⟨ba,bcap,hbv,_⟩:=hb
 obtain⟨n,HN⟩:∃n,Hid (F.blocks.length=n):=⟨_,rfl⟩
 obtain⟨vals,HV⟩:∃x,Hid (F.values=x):=⟨_,rfl⟩
 rw[HN.out] at hbv
 rw[HV.out,hbv] at hv0
 clear hbv
 subst hv0
 refine(callsIn_wide (n:=3)).1 ?_
 refine callsIn_of_wp_marks Tryz.func18 rfl trivial ?_ rfl
 simp only[Tryz.ntmps18,List.size_toArray,List.length_cons,List.length_nil,Nat.reduceAdd,Nat.reduceSub,Array.replicate_succ,Array.replicate_zero,List.push_toArray,List.append_toArray,List.nil_append,List.cons_append]
 gi_wp2_with fail
 refine⟨trivial,?_⟩
 refine(callsIn_wide.2 (impl_shapeOk _ F _ (HF.out.later (by repeat (first | exact Below.refl _ _ | apply Below.drew | refine Below.alloc ?_ (by simp <;> omega) _ | refine Below.setCell ?_ (by simp <;> omega) _))))).mono ?_
 rintro e w1 ⟨s1,rfl,hs1,b1⟩
 have S1:Hid (s1=true↔FnShape F):=hs1
 have hB1:Below w.heap.size w w1:=Bel.after (by repeat (first | exact Below.refl _ _ | apply Below.drew | refine Below.alloc ?_ (by simp <;> omega) _ | refine Below.setCell ?_ (by simp <;> omega) _)) b1
 have F1:Hid (FnAt w1 (.agg #[.slice ba n bcap,.int .i64 vals]) F):=HF.out.later hB1
 have c0:w1.cell? ⟨w.heap.size,0,none⟩=some (.slice ba n bcap):=Bel.keeps b1 (by simp[go_sem])
 have c1:w1.cell? ⟨w.heap.size,1,none⟩=some (.int .i64 vals):=Bel.keeps b1 (by simp[go_sem])
 have o1:OwnInts w1 w.heap.size (.slice (some ⟨w.heap.size+1,0,none⟩) 0 0) []:=by
  have h:=ownInts_new (w.alloc (.cells #[.slice ba n bcap,.int .i64 vals] 26))
  rw[World.size_alloc] at h
  exact((h.keep (Bel.alloc _ _)).keep b1).low (by omega)
 have x1:Boxed w1 (w.heap.size+1+1) 29 (.slice (some ⟨w.heap.size+1,0,none⟩) 0 0):=by
  have h:=Boxed.new ((w.alloc (.cells #[.slice ba n bcap,.int .i64 vals] 26)).alloc (.cells #[] 3)) 29 (.slice (some ⟨w.heap.size+1,0,none⟩) 0 0)
  rw[World.size_alloc,World.size_alloc] at h
  exact(b1.block _ h.lt).trans h
 have hsz1:w.heap.size+3≤w1.heap.size:=by have h:=b1.size;simp at h;omega
 have xc:=x1.cell
 clear b1 hs1
 cases s1 with
 | false=>
  have hno:¬FnShape F:=fun h=>by have:=S1.out.2 h;cases this
  gi_wp2
  refine⟨trivial,?_⟩
  gi_wp2
  refine⟨_,results_tmp rfl _ _ _,?_⟩
  rw[succsOf_no (fun h=>hno h.1)]
  exact⟨_,rfl,o1,hB1⟩
 | true=>
  have hyes:Hid (FnShape F):=S1.out.1 rfl
  gi_wp2_with fail
  refine⟨trivial,?_⟩
  refine(callsIn_wide.2 (blockIn_any ba n bcap vals b _)).mono ?_
  rintro e w2 ⟨rfl,b2⟩
  have hB2:Below w.heap.size w w2:=Bel.after hB1 b2
  have F2:Hid (FnAt w2 (.agg #[.slice ba n bcap,.int .i64 vals]) F):=F1.out.later b2
  replace c0:=Bel.keeps b2 c0
  replace c1:=Bel.keeps b2 c1
  have o2:=o1.keep b2
  have x2:Boxed w2 (w.heap.size+1+1) 29 (.slice (some ⟨w.heap.size+1,0,none⟩) 0 0):=(b2.block _ x1.lt).trans x1
  have hsz2:w.heap.size+3≤w2.heap.size:=Nat.le_trans hsz1 b2.size
  clear b2 o1 x1 xc hB1 hsz1
  have xc:=x2.cell
  cases hv:valIn (n:Int) b with
  | false=>
   gi_wp2
   refine⟨_,results_tmp rfl _ _ _,?_⟩
   have hn2:¬(0≤b∧b<(n:Int)):=fun h=>by rw[valIn_yes h.1 h.2] at hv;cases hv
   rw[succsOf_no (fun h=>hn2 ⟨h.2.1,by have:=h.2.2;rw[HN.out] at this;exact this⟩)]
   exact⟨_,rfl,o2,hB2⟩
  | true=>
   obtain⟨hb0,hb1⟩:=valIn_iff.1 hv
   obtain⟨bn,rfl⟩:∃bn:Nat,b=(bn:Int):=⟨b.toNat,by omega⟩
   obtain⟨bb,off,x,rfl,hx,t0,t1,t2,t3⟩:=F2.out.end (j:=bn) (by omega)
   have HX:Hid (succsOf F (bn:Int)=succsT x.term):=by
    rw[succsOf_yes hyes.out (by omega) (by rw[HN.out];exact hb1)]
    exact succsN_at (by simpa using hx)
   have hq:∀s∈succsT x.term,0≤s:=fun s hs=>(succs_in hyes.out bn s (by rw[succsN_at hx];exact hs)).1
   obtain⟨xp,xl,xk,xa,xt,xe⟩:=x
   dsimp only at t0 t1 t2 t3 HX hq
   gi_wp2_with (refine⟨trivial,?_⟩;gi_at_call 55;refine(callsIn_wide.2 (followers_any _ _ _ _ _)).mono ?_;rintro e w' ⟨rfl,rfl⟩)
   obtain⟨W0,hW0⟩:∃W0,w2.alloc (.cells #[.int .i64 xk,.int .i64 xa,.int .i64 xt,.int .i64 xe] 42)=W0:=⟨_,rfl⟩
   have hsz:W0.heap.size=w2.heap.size+1:=by rw[←hW0];simp
   have hB0:Below w.heap.size w W0:=by rw[←hW0];exact Bel.after hB2 (Bel.alloc _ _)
   have x3:Boxed W0 (w.heap.size+1+1) 29 (.slice (some ⟨w.heap.size+1,0,none⟩) 0 0):=by rw[←hW0];exact x2.alloc _
   have o3:OwnInts W0 w.heap.size (.slice (some ⟨w.heap.size+1,0,none⟩) 0 0) []:=by rw[←hW0];exact o2.keep (Bel.alloc _ _)
   have hT:EndBox W0 w2.heap.size xk xa xt xe:=by rw[←hW0];exact EndBox.new _ _ _ _ _
   rw[hW0]
   clear hW0 x2 o2 xc hB2
   obtain⟨i0,hi,hz0,hz1,hz2⟩:=info_parts info_int
   refine wpIn_rangeFunc_ownG (α := {x:Int // True}) rfl (by omega) (gf:=109) (lb := #[.pointer (some ⟨w2.heap.size,0,none⟩)]) rfl trivial (enters_of Tryz.func109 (by kernel_rfl) rfl)
    (followers_stops (fun _=>True) 2 (by omega) w2.heap.size xk xa xt xe (fun _ _=>trivial) W0 (by omega) hT) keepsB_t (keepsB_b (by omega)) (Below.refl _ _) (fun _=>rfl)
    (fun pre W=>EndBox W w2.heap.size xk xa xt xe∧(∃v,Boxed W (w.heap.size+1+1) 29 v∧W.ownsRow w.heap.size 3 1 v pre.length (pre.map (fun x=>Value.int .i64 x.1))∧True)∧Below w.heap.size w W)
    (fun _ _ _=>False)
    (OwnFrom.and (Own.from (EndBox.own _ _ _ _ _) _) (OwnFrom.and (Own.from (holdsRow_own w.heap.size (w.heap.size+1+1) 29 3 1 (fun(pre:List {x:Int // True})=>pre.length) (fun pre=>pre.map (fun x=>Value.int .i64 x.1)) (fun _ _=>True)) _) (ownFrom_below (Nat.le_refl _) (by omega))))
    (fun _ _ _ _ _ hs _ _=>hs)
    ⟨hT,⟨_,x3,o3,trivial⟩,hB0⟩
    (fun x=>{ tmps := #[.agg #[.slice (some ⟨bb,off,none⟩) n bcap,.int .i64 vals],.int .i64 (bn:Int),.pointer (some ⟨w.heap.size,0,none⟩),undef,.slice none 0 0,.pointer (some ⟨w.heap.size+1+1,0,none⟩),.int .i64 x.1,.slice (some ⟨w.heap.size+1,0,none⟩) 0 0,
     .agg #[.slice (some ⟨bb,off,none⟩) n bcap,.int .i64 vals],.bool true,.bool false,.bool false,.agg #[.slice (some ⟨bb,off,none⟩) n bcap,.int .i64 vals],.int .i64 (bn:Int),.bool true,.bool false,.bool false,undef,
     .pointer (some ⟨w.heap.size,0,none⟩),.slice (some ⟨bb,off,none⟩) n bcap,.int .i64 (bn:Int),.pointer (some ⟨bb,off+bn*6,none⟩),.pointer (some ⟨bb,off+bn*6+2,none⟩),.agg #[.int .i64 xk,.int .i64 xa,.int .i64 xt,.int .i64 xe],
     .func (.func 109) #[] #[.pointer (some ⟨w2.heap.size,0,none⟩)],.int .i64 x.1,undef,undef,undef,undef,undef],defers := [] }) ?assign ?body ?done ?stop
   case assign=>
    intro l x W K hK
    gi_wp2
    exact hK
   case body=>
    rintro l pre x W ⟨hE,⟨v,hv,hrow,_⟩,hB⟩ hlt
    have hc:=hv.cell
    have hmx:100≤maxLen:=by decide
    gi_wp2_with (gi_at_builtin;refine wpListIn_append_own _ rfl _ _ 29 rfl w.heap.size 3 i0 (.int .i64 0) 1 8 Tryz.underlying29 hi hz0 hz1 hz2 rfl (by decide) _ _ _ rfl (hrow.alloc _) ⟨W.heap.size,0,none⟩ 1 1 [.int .i64 x.1] rfl rfl (cell_one_new _ _ _) (by simp[Value.oneCell']) (by omega) (by omega) (by have:=hB.size;simp;omega) ?_;intro v' w1 hown' hgrow _;obtain⟨g',cap',rfl⟩:=ownsRow_succ hown';obtain⟨hv1,hv2,hr2,hk2,hb2⟩:=hv.appended (by decide) hrow hB.size (by omega) hown' hgrow;have hc1:=hv1.cell;have hf1:=hv1.frozen)
    have hkb:KeepsB w2.heap.size W (w1.setCell ⟨w.heap.size+1+1,0,none⟩ (.slice (some ⟨g',0,none⟩) (pre.length+1) cap')):=by
     refine keepsB_t ?_ (keepsB_setCell w1 _ (by omega))
     exact(hgrow.block w2.heap.size (by have:=hE.lt;simp;omega) (hE.not_row hrow)).trans (Below.heap_alloc W _ _ hE.lt)
    exact⟨hk2.from _,hkb,hE.kept hkb,⟨_,hv2,by simpa using hr2,trivial⟩,hB.trans hb2⟩
   case done=>
    rintro D ys W hD hS ⟨_,⟨v,hv,hrow,_⟩,hB⟩ hK
    have hc:=hv.cell
    gi_wp2
    refine⟨by simp,.inl ⟨_,_,rfl,run_takeDeferred hK,?_⟩⟩
    refine⟨_,results_tmp rfl _ _ _,_,rfl,?_,hB.trans (belowK_b (w:=w) (Nat.le_refl _) W D _ _ (by omega) hK rfl rfl)⟩
    rw[HX.out]
    have e:succsT ⟨xk,xa,xt,xe⟩=ys.map (fun x=>x.1):=hS.symm
    rw[e]
    have:=ownsRow_putObj hrow (.deferred none) hK rfl
    simpa [OwnInts] using this
   case stop=>
    rintro D c pre W _ _ h _
    exact h.elim
end Go.Proofs.YtfnilamkapabkaaGreatDoor
namespace Go.Proofs.YtfnilamkapabkaaGreatDoor
open Go.ChangeShapes Go.WideShapes Go.ChangeAt Go.RowKit Go.Shelf
set_option linter.unusedVariables false
theorem ownInts_one {w:World}{x:Int}{g lo:Nat}(hg:w.heap.size=g)(hl:lo≤g):OwnInts (w.alloc (.cells #[.int .i64 x] 3)) lo (.slice (some ⟨g,0,none⟩) 1 1) [x]:=by
 subst hg
 exact⟨rfl,.inr ⟨w.heap.size,1,#[.int .i64 x],rfl,hl,World.alloc_heap_new w _,Nat.le_refl _,by decide,rfl,rfl⟩⟩
theorem ownInts_nil {w:World}{g lo:Nat}(hg:w.heap.size=g)(hl:lo≤g):OwnInts (w.alloc (.cells #[] 3)) lo (.slice (some ⟨g,0,none⟩) 0 0) []:=by
 subst hg
 exact(ownInts_new w).low hl
theorem FnAt.out {w:World}{v:Value}{F:FnD}(h:FnAt w v F){n:Nat}{vals:Int}(hn:F.blocks.length=n)(hv:F.values=vals):∃ba bcap,v = .agg #[.slice ba n bcap,.int .i64 vals]:=by
 obtain⟨bv,rfl,a,cap,rfl,_⟩:=h
 exact⟨a,cap,by rw[hn,hv]⟩
end Go.Proofs.YtfnilamkapabkaaGreatDoor
namespace Go.Proofs.YtfnilamkapabkaaGreatDoor
open Go.ChangeShapes Go.WideShapes Go.ChangeAt Go.RowKit Go.Shelf
set_option linter.unusedVariables false
theorem OwnInts.not_box {w:World}{lo:Nat}{v:Value}{l:List Int}(h:OwnInts w lo v l){B:Nat}{c:Array Value}{t:TypeId}{z:Nat × Nat}(hB:w.heap[B]? = some (.cells c t z))(ht:t≠3):some B≠v.ownBlock:=by
 rcases h.2 with ⟨rfl,_⟩ | ⟨g,cap,cur,rfl,_,hgb,_⟩
 ·simp[Value.ownBlock]
 ·intro e'
  obtain rfl:B=g:=by simpa [Value.ownBlock] using e'
  have:=hB.symm.trans hgb
  simp at this
  exact ht this.2.1
theorem OwnInts.next {w:World}{lo:Nat}{v:Value}{l:List Int}{x:Int}(h:w.ownsRow lo 3 1 v (l.length+1) (l.map (fun x=>Value.int .i64 x) ++ [Value.int .i64 x])):OwnInts w lo v (l ++ [x]):=by
 unfold OwnInts
 simpa using h
theorem OwnInts.grown {W w1:World}{lo:Nat}{v:Value}{l:List Int}(h:OwnInts W lo v l)(hlo:lo≤W.heap.size){o:Obj}(hg:(W.alloc o).grownBy w1 v.ownBlock):Below lo W w1:=by
 refine((Below.refl lo W).alloc hlo o).grown hg (by simp;omega) fun j ej=>?_
 rcases h.2 with ⟨rfl,_⟩ | ⟨g,cap,cur,rfl,hb,_,_⟩
 ·simp[Value.ownBlock] at ej
 ·obtain rfl:g=j:=by simpa [Value.ownBlock] using ej
  exact hb
end Go.Proofs.YtfnilamkapabkaaGreatDoor
namespace Go.Proofs.YtfnilamkapabkaaGreatDoor
open Go.ChangeShapes Go.WideShapes Go.ChangeAt Go.RowKit Go.Shelf
set_option linter.unusedVariables false
set_option maxRecDepth 100000 in
set_option maxHeartbeats 4000000 in
theorem impl_preds (v:Value)(F:FnD)(b:Int)(w:World)(hF:FnAt w v F) :
  Calls Tryz.prog 25 #[v,.int .i64 b] w fun e w'=>GivesOwn w (predsOf F b) e w':=by
 have HF:Hid (FnAt w v F):=hF
 obtain⟨n,HN⟩:∃n,Hid (F.blocks.length=n):=⟨_,rfl⟩
 obtain⟨vals,HV⟩:∃x,Hid (F.values=x):=⟨_,rfl⟩
 obtain⟨ba,bcap,rfl⟩:=hF.out HN.out HV.out
 clear hF
 obtain⟨i0,hi,hz0,hz1,hz2⟩:=info_parts info_int
 have hmx:100≤maxLen:=by decide
 go_enter Tryz.func25,Tryz.ntmps25
 go_wp2_with fail
 refine(impl_shapeOk _ F _ (HF.out.later (by repeat (first | exact Below.refl _ _ | apply Below.drew | refine Below.alloc ?_ (by simp <;> omega) _ | refine Below.setCell ?_ (by simp <;> omega) _)))).mono ?_
 rintro e w1 ⟨s1,rfl,hs1,b1⟩
 have S1:Hid (s1=true↔FnShape F):=hs1
 have HB1:Hid (Below w.heap.size w w1):=Bel.after (by repeat (first | exact Below.refl _ _ | apply Below.drew | refine Below.alloc ?_ (by simp <;> omega) _ | refine Below.setCell ?_ (by simp <;> omega) _)) b1
 have c0:w1.cell? ⟨w.heap.size,0,none⟩=some (.slice ba n bcap):=Bel.keeps b1 (by simp[go_sem])
 have c1:w1.cell? ⟨w.heap.size,1,none⟩=some (.int .i64 vals):=Bel.keeps b1 (by simp[go_sem])
 have HX1:Hid (w1.heap[w.heap.size]? = some (.cells #[.slice ba n bcap,.int .i64 vals] 26 (0,0))):=by
  refine(b1.block _ (by simp <;> omega)).trans ?_
  rw[Below.heap_alloc _ _ _ (by simp)]
  exact World.alloc_heap_new w _
 have O1:Hid (OwnInts w1 w.heap.size (.slice (some ⟨w.heap.size+1,0,none⟩) 0 0) []):=OwnInts.keep (ownInts_nil (by simp) (by omega)) b1
 clear b1 hs1
 cases s1 with
 | false=>
  have HE:Hid (predsOf F b = []):=predsOf_no (fun h=>by have:=S1.out.2 h.1;cases this)
  go_wp2_with fail
  go_ret
  rw[HE.out]
  exact⟨_,rfl,O1.out,HB1.out⟩
 | true=>
  have hyes:Hid (FnShape F):=S1.out.1 rfl
  have h16:n≤16:=by have:=hyes.out.2.1;rw[HN.out] at this;exact this
  go_wp2_with fail
  refine(blockIn_any ba n bcap vals b _).mono ?_
  rintro e w2 ⟨rfl,b2⟩
  have HB2:Hid (Below w.heap.size w w2):=Bel.after HB1.out b2
  have HX2:Hid (w2.heap[w.heap.size]? = some (.cells #[.slice ba n bcap,.int .i64 vals] 26 (0,0))):=(b2.block _ (Array.getElem?_eq_some_iff.1 HX1.out).1).trans HX1.out
  have O2:Hid (OwnInts w2 w.heap.size (.slice (some ⟨w.heap.size+1,0,none⟩) 0 0) []):=O1.out.keep b2
  replace c0:=Bel.keeps b2 c0
  replace c1:=Bel.keeps b2 c1
  clear b2
  cases hv:valIn (n:Int) b with
  | false=>
   have hn2:¬(0≤b∧b<(n:Int)):=fun h=>by rw[valIn_yes h.1 h.2] at hv;cases hv
   have HE:Hid (predsOf F b = []):=predsOf_no (fun h=>hn2 ⟨h.2.1,by have:=h.2.2;rw[HN.out] at this;exact this⟩)
   clear hn2
   go_wp2_with fail
   go_ret
   rw[HE.out]
   exact⟨_,rfl,O2.out,HB2.out⟩
  | true=>
   obtain⟨hb0,hb1⟩:=valIn_iff.1 hv
   have HE:Hid (predsOf F b=predsN F b):=predsOf_yes hyes.out hb0 (by rw[HN.out];exact hb1)
   clear hv
   go_wp2_with fail
   go_loopw [5,21] (fun s i wr=>∃k:Nat,k≤n∧i = .int .i64 k∧OwnInts wr w.heap.size s (predsUp F b k)∧Below w.heap.size w wr∧wr.heap[w.heap.size]? = some (.cells #[.slice ba n bcap,.int .i64 vals] 26 (0,0))) (fun _ i _=>n-(intOf i).toNat)
   case atStart=>exact⟨0,Nat.zero_le _,rfl,O2.out,HB2.out,HX2.out⟩
   case round=>
    obtain⟨k,hk,rfl,ho,hB,hbx⟩:=hrel
    have c0:wr.cell? ⟨w.heap.size,0,none⟩=some (.slice ba n bcap):=by simp[World.cell?,hbx]
    have c1:wr.cell? ⟨w.heap.size,1,none⟩=some (.int .i64 vals):=by simp[World.cell?,hbx]
    have HO:Hid (OwnInts wr w.heap.size u5 (predsUp F b k)):=ho
    have HB:Hid (Below w.heap.size w wr):=hB
    have HX:Hid (wr.heap[w.heap.size]? = some (.cells #[.slice ba n bcap,.int .i64 vals] 26 (0,0))):=hbx
    have hpl:=predsUp_len F b k
    clear ho hB hbx
    by_cases hlt2:(k:Int)<(n:Int)
    ·obtain⟨bb,off,x,rfl,hx,t0,t1,t2,t3⟩:=(HF.out.later HB.out).end (j:=k) (by omega)
     have HS:Hid (succsN F k=succsT x.term):=succsN_at hx
     obtain⟨xp,xl,xk,xa,xt,xe⟩:=x
     dsimp only at t0 t1 t2 t3
     clear hx
     go_wp2_with fail
     refine(goesTo_any xk xa xt xe b _).mono ?_
     rintro e w3 ⟨rfl,b3⟩
     have HO1:Hid (OwnInts w3 w.heap.size u5 (predsUp F b k)):=HO.out.keep b3
     have HB3:Hid (Below w.heap.size w w3):=Bel.after HB.out b3
     have HX3:Hid (w3.heap[w.heap.size]? = some (.cells #[.slice (some ⟨bb,off,none⟩) n bcap,.int .i64 vals] 26 (0,0))):=(b3.block _ (Array.getElem?_eq_some_iff.1 HX.out).1).trans HX.out
     clear b3 c0 c1 t0 t1 t2 t3
     have hse:succsV xk xt xe=succsN F k:=HS.out.symm
     rw[hse]
     by_cases hin:b∈succsN F k
     ·rw[decide_eq_true hin]
      go_wp2_with (at_builtin;refine wpList_append_own _ rfl _ _ 29 rfl w.heap.size 3 i0 (.int .i64 0) 1 8 Tryz.underlying29 hi hz0 hz1 hz2 rfl (by decide) _ _ _ rfl (World.ownsRow.alloc HO1.out _) ⟨w3.heap.size,0,none⟩ 1 1 [.int .i64 (k:Int)] rfl rfl (cell_one_new _ _ _) (by simp[Value.oneCell']) (by omega) (by omega) (by have:=HB3.out.size;simp;omega) ?_;intro v' wa hown' hgrow _;have HO':Hid (OwnInts wa w.heap.size v' (predsUp F b k ++ [(k:Int)])):=OwnInts.next hown';have HG:Hid (World.grownBy _ _ _):=hgrow;clear hown' hgrow)
      go_roundw
      case rel=>exact⟨k+1,by omega,by go_num,by rw[predsUp_yes hin];exact HO'.out,HB3.out.trans (HO1.out.grown HB3.out.size HG.out),(HG.out.block _ (by have:=(Array.getElem?_eq_some_iff.1 HX3.out).1;simp;omega) (HO1.out.not_box HX3.out (by decide))).trans ((Below.heap_alloc _ _ _ (Array.getElem?_eq_some_iff.1 HX3.out).1).trans HX3.out)⟩
      case measure=>simp[intOf];omega
     ·rw[decide_eq_false hin]
      go_wp2_with fail
      go_roundw
      case rel=>exact⟨k+1,by omega,by go_num,by rw[predsUp_not hin];exact HO1.out,HB3.out,HX3.out⟩
      case measure=>simp[intOf];omega
    ·have hkn:k=n:=by omega
     subst hkn
     go_wp2_with fail
     go_ret
     rw[HE.out]
     refine⟨_,rfl,?_,HB.out⟩
     unfold predsN
     rw[HN.out]
     exact HO.out
end Go.Proofs.YtfnilamkapabkaaGreatDoor
