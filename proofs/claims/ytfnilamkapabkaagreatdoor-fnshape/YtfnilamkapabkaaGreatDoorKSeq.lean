/- The blocks that follow a block: the program's iterator by its contract, for every end of a block. Lists of numbers that a call has made: read, marked, kept. Whether a block follows another one, and the list of those that follow: the program's goesTo and what Succs gathers. -/
import Derived.Test.YtfnilamkapabkaaGreatDoorKIns
import Derived.RangeFuncNested
import Derived.RangeFuncBound
import Derived.RangeFuncCalls
import Derived.RangeFuncLeaves
import Derived.Shelf.Abstract
import Derived.Shelf.RegionOpen
import Derived.WalkKit
import Derived.OwnWalkIn
import Derived.TacticsInMore
import Derived.LoopNIn
import Derived.LoopIn
import Derived.Laws.AppendOwn
import Derived.OwnWalk
import Derived.RangeFuncBox
import Derived.Maps.AppendAt
namespace Go.Proofs.YtfnilamkapabkaaGreatDoor
open Go.ChangeShapes Go.WideShapes Go.ChangeAt Go.RowKit Go.Shelf
set_option linter.unusedVariables false
attribute [local go_sem] Oper.semAt_some
def succsV (k t e:Int):List Int:=if k=1 then [t] else if k=2 then(if e=t then [t] else [t,e]) else []
theorem succsV_jump (t e:Int):succsV 1 t e = [t]:=by simp[succsV]
theorem succsV_one {t e:Int}(h:e=t):succsV 2 t e = [t]:=by simp[succsV,h]
theorem succsV_two {t e:Int}(h:¬e=t):succsV 2 t e = [t,e]:=by simp[succsV,h]
theorem succsV_none {k t e:Int}(h1:¬k=1)(h2:¬k=2):succsV k t e = []:=by simp[succsV,h1,h2]
def KeepsB (B:Nat)(W W':World):Prop:=W'.heap[B]? = W.heap[B]?
theorem KeepsB.cell {B:Nat}{W W':World}(h:KeepsB B W W')(j:Nat):W'.cell? ⟨B,j,none⟩=W.cell? ⟨B,j,none⟩:=World.cell?_of_block (w:=W) h
theorem keepsB_t {B:Nat}{X Y Z:World}(h:KeepsB B X Y)(k:KeepsB B Y Z):KeepsB B X Z:=k.trans h
theorem keepsB_b {B:Nat}{w:World}(hB:B<w.heap.size)(W:World)(l:Nat)(o o':Obj)(hl:w.heap.size≤l)(_:W.heap[l]? = some o)(_:o.isCells=false)(_:o.isWalk=false):KeepsB B W (W.putObj l o'):=World.putObj_heap_other (by omega)
def EndBox (W:World)(B:Nat)(k a t e:Int):Prop:=W.heap[B]? = some (.cells #[.int .i64 k,.int .i64 a,.int .i64 t,.int .i64 e] 42 (0,0))
theorem EndBox.cells {W:World}{B:Nat}{k a t e:Int}(h:EndBox W B k a t e):W.cell? ⟨B,0,none⟩=some (.int .i64 k)∧W.cell? ⟨B,1,none⟩=some (.int .i64 a)∧W.cell? ⟨B,2,none⟩=some (.int .i64 t)∧W.cell? ⟨B,3,none⟩=some (.int .i64 e):=by
 refine⟨?_,?_,?_,?_⟩ <;> simp[World.cell?,show W.heap[B]? = _ from h]
theorem EndBox.kept {W W':World}{B:Nat}{k a t e:Int}(h:EndBox W B k a t e)(hk:KeepsB B W W'):EndBox W' B k a t e:=hk.trans h
theorem EndBox.lt {W:World}{B:Nat}{k a t e:Int}(h:EndBox W B k a t e):B<W.heap.size:=(Array.getElem?_eq_some_iff.1 h).1
theorem EndBox.new (W:World)(k a t e:Int):EndBox (W.alloc (.cells #[.int .i64 k,.int .i64 a,.int .i64 t,.int .i64 e] 42)) W.heap.size k a t e:=World.alloc_heap_new W _
theorem EndBox.own {β:Type}(B:Nat)(k a t e:Int):Own (fun(_:β) W=>EndBox W B k a t e):=fun s X Y row hs hg hr=>
 (hg.block B (EndBox.lt hs) (fun e'=>by
  obtain⟨o,ho,hc⟩:=hr B e'.symm
  rw[show X.heap[B]? = _ from hs] at ho;cases ho;cases hc)).trans hs
theorem EndBox.not_row {W:World}{B:Nat}{k a t e:Int}(h:EndBox W B k a t e){base size n:Nat}{v:Value}{xs:List Value}(hr:W.ownsRow base 3 size v n xs):some B≠v.ownBlock:=by
 rcases hr.2 with ⟨rfl,_⟩ | ⟨g,cap,cur,rfl,_,hgb,_⟩
 ·simp[Value.ownBlock]
 ·intro e'
  obtain rfl:B=g:=by simpa [Value.ownBlock] using e'
  have:=(show W.heap[B]? = _ from h).symm.trans hgb
  simp at this
theorem followers_any (k a t e:Int)(w:World) :
  Calls Tryz.prog 55 #[.agg #[.int .i64 k,.int .i64 a,.int .i64 t,.int .i64 e]] w fun r w'=>r = .returned (.func (.func 109) #[] #[.pointer (some ⟨w.heap.size,0,none⟩)])∧w'=w.alloc (.cells #[.int .i64 k,.int .i64 a,.int .i64 t,.int .i64 e] 42):=by
 go_enter Tryz.func55,Tryz.ntmps55
 go_wp2
 go_ret
 exact⟨rfl,rfl⟩
set_option maxRecDepth 100000 in
set_option maxHeartbeats 1000000 in
theorem seq_any (Q:Int→Prop)(n:Nat)(hn:1≤n)(l B:Nat)(k a t e:Int)(hQ:∀x∈succsV k t e,Q x)(J Jx:List {x // Q x}→World→Prop)
  (hY:∀pre x W,J pre W→pre.length<2→YieldAt Fence.wide (n-1) Tryz.prog l #[.int .i64 x.1] W fun r W'=>
   (r = .returned (.bool true)∧J (pre ++ [x]) W'∧KeepsB B W W')∨(r = .returned (.bool false)∧Jx (pre ++ [x]) W'))
  (W:World) (hB:EndBox W B k a t e) (h0:J [] W) :
  CallsIn Fence.wide n Tryz.prog 109 #[.func (.yield l) #[] #[],.pointer (some ⟨B,0,none⟩)] W fun r W'=>(∃v,r = .returned v) ∧
   ((∃ys:List {x // Q x},ys.map (fun x=>x.1)=succsV k t e∧J ys W')∨(∃pre:List {x // Q x},(pre.map (fun x=>x.1) <+: succsV k t e)∧Jx pre W')):=by
 by_cases h1:k=1
 ·subst h1
  rw[succsV_jump] at hQ ⊢
  refine callsIn_of_wp Tryz.func109 rfl trivial ?_ rfl
  simp only[Tryz.ntmps109,List.size_toArray,List.length_cons,List.length_nil,Nat.reduceAdd,Nat.reduceSub,Array.replicate_succ,Array.replicate_zero,List.push_toArray,List.append_toArray,List.nil_append,List.cons_append]
  obtain⟨f1,t1,a1,b1,hy1,hR1⟩:=hY [] ⟨t,hQ t (by simp)⟩ W h0 (by simp)
  dsimp only at hy1
  obtain⟨c0,c1,c2,c3⟩:=hB.cells
  gi_wp2
  refine hR1.mono ?_
  rintro r W1 (⟨rfl,hJ1,hk1⟩ | ⟨rfl,hx1⟩)
  ·gi_wp2
   go_end0
   exact⟨⟨_,rfl⟩,.inl ⟨_,by simp,hJ1⟩⟩
  ·gi_wp2
   go_end0
   exact⟨⟨_,rfl⟩,.inr ⟨_,by simp,hx1⟩⟩
 ·by_cases h2:k=2
  ·subst h2
   by_cases het:e=t
   ·subst het
    rw[succsV_one rfl] at hQ ⊢
    refine callsIn_of_wp Tryz.func109 rfl trivial ?_ rfl
    simp only[Tryz.ntmps109,List.size_toArray,List.length_cons,List.length_nil,Nat.reduceAdd,Nat.reduceSub,Array.replicate_succ,Array.replicate_zero,List.push_toArray,List.append_toArray,List.nil_append,List.cons_append]
    obtain⟨f1,t1,a1,b1,hy1,hR1⟩:=hY [] ⟨e,hQ e (by simp)⟩ W h0 (by simp)
    dsimp only at hy1
    have HB:Hid (EndBox W B 2 a e e):=hB
    obtain⟨c0,c1,c2,c3⟩:=hB.cells
    gi_wp2
    refine hR1.mono ?_
    rintro r W1 (⟨rfl,hJ1,hk1⟩ | ⟨rfl,hx1⟩)
    ·obtain⟨d0,d1,d2,d3⟩:=(HB.out.kept hk1).cells
     gi_wp2
     go_end0
     exact⟨⟨_,rfl⟩,.inl ⟨_,by simp,hJ1⟩⟩
    ·gi_wp2
     go_end0
     exact⟨⟨_,rfl⟩,.inr ⟨_,by simp,hx1⟩⟩
   ·rw[succsV_two het] at hQ ⊢
    refine callsIn_of_wp Tryz.func109 rfl trivial ?_ rfl
    simp only[Tryz.ntmps109,List.size_toArray,List.length_cons,List.length_nil,Nat.reduceAdd,Nat.reduceSub,Array.replicate_succ,Array.replicate_zero,List.push_toArray,List.append_toArray,List.nil_append,List.cons_append]
    obtain⟨f1,t1,a1,b1,hy1,hR1⟩:=hY [] ⟨t,hQ t (by simp)⟩ W h0 (by simp)
    dsimp only at hy1
    have HB:Hid (EndBox W B 2 a t e):=hB
    obtain⟨c0,c1,c2,c3⟩:=hB.cells
    gi_wp2
    refine hR1.mono ?_
    rintro r W1 (⟨rfl,hJ1,hk1⟩ | ⟨rfl,hx1⟩)
    ·obtain⟨d0,d1,d2,d3⟩:=(HB.out.kept hk1).cells
     obtain⟨f2,t2,a2,b2,hy2,hR2⟩:=hY _ ⟨e,hQ e (by simp)⟩ W1 hJ1 (by simp)
     dsimp only at hy2
     have het2:(e == t)=false:=by simp[het]
     gi_wp2
     refine hR2.mono ?_
     rintro r W2 (⟨rfl,hJ2,_⟩ | ⟨rfl,hx2⟩)
     ·gi_wp2
      go_end0
      exact⟨⟨_,rfl⟩,.inl ⟨_,by simp,hJ2⟩⟩
     ·gi_wp2
      go_end0
      exact⟨⟨_,rfl⟩,.inr ⟨_,by simp,hx2⟩⟩
    ·gi_wp2
     go_end0
     exact⟨⟨_,rfl⟩,.inr ⟨_,by simp,hx1⟩⟩
  ·rw[succsV_none h1 h2] at hQ ⊢
   have g1:(k == 1)=false:=by simp[h1]
   have g2:(k == 2)=false:=by simp[h2]
   refine callsIn_of_wp Tryz.func109 rfl trivial ?_ rfl
   simp only[Tryz.ntmps109,List.size_toArray,List.length_cons,List.length_nil,Nat.reduceAdd,Nat.reduceSub,Array.replicate_succ,Array.replicate_zero,List.push_toArray,List.append_toArray,List.nil_append,List.cons_append]
   obtain⟨c0,c1,c2,c3⟩:=hB.cells
   gi_wp2
   go_end0
   exact⟨⟨_,rfl⟩,.inl ⟨[],by simp,h0⟩⟩
theorem followers_stops (Q:Int→Prop)(n:Nat)(hn:1≤n)(B:Nat)(k a t e:Int)(hQ:∀x∈succsV k t e,Q x)(w:World)(hlt:B<w.heap.size)(hB:EndBox w B k a t e) :
  SeqStopsK Fence.wide n Tryz.prog 109 #[.pointer (some ⟨B,0,none⟩)] (fun x:{x // Q x}=>#[.int .i64 x.1]) (KeepsB B) (fun ys=>ys.map (fun x=>x.1)=succsV k t e) (fun pre=>pre.map (fun x=>x.1) <+: succsV k t e) 2 w:=fun l J Jx W hW _ _ hY h0=>
 seq_any Q n hn l B k a t e hQ J Jx hY W (hB.kept (hW.block B hlt)) h0
end Go.Proofs.YtfnilamkapabkaaGreatDoor
namespace Go.Proofs.YtfnilamkapabkaaGreatDoor
open Go.ChangeShapes Go.WideShapes Go.ChangeAt Go.RowKit Go.Shelf
set_option linter.unusedVariables false
def OwnInts (w:World)(lo:Nat)(v:Value)(l:List Int):Prop:=w.ownsRow lo 3 1 v l.length (l.map (fun x=>Value.int .i64 x))
theorem OwnInts.small {w:World}{lo:Nat}{v:Value}{l:List Int}(h:OwnInts w lo v l):l.length≤maxLen:=by
 rcases h.2 with ⟨_,h0⟩ | ⟨g,cap,cur,_,_,_,h1,h2,_⟩
 ·rw[h0];exact Nat.zero_le _
 ·omega
theorem OwnInts.row {w:World}{lo:Nat}{v:Value}{l:List Int}(h:OwnInts w lo v l) :
  ∃a cap,v = .slice a l.length cap∧(0<l.length→∃g,a=some ⟨g,0,none⟩∧lo≤g∧g<w.heap.size∧(∀i,i<l.length→w.cell? ⟨g,i,none⟩=some (.int .i64 (l.getD i 0)))∧∀i,w.frozen? ⟨g,i,none⟩=false):=by
 rcases h.2 with ⟨rfl,h0⟩ | ⟨g,cap,cur,rfl,hlo,hg,h1,h2,h3,h4⟩
 ·exact⟨none,0,by rw[h0],fun hp=>absurd hp (by omega)⟩
 ·refine⟨_,cap,rfl,fun hp=>⟨g,rfl,hlo,(Array.getElem?_eq_some_iff.1 hg).1,fun i hi=>?_,fun i=>?_⟩⟩
  ·have hs:i<cur.size:=by omega
   have e:cur[i]? = some (.int .i64 (l.getD i 0)):=by
    have e1:(cur.toList.take (l.length*1))[i]? = cur[i]?:=by rw[List.getElem?_take];simp[hi]
    rw[←e1,h4,List.getElem?_map]
    simp[List.getD,hi]
   simp[World.cell?,hg,e]
  ·simp[World.frozen?,hg]
theorem OwnInts.at {w:World}{lo:Nat}{v:Value}{l:List Int}(h:OwnInts w lo v l):IntsAt w v l:=by
 have hs:=h.small
 obtain⟨a,cap,rfl,hc⟩:=h.row
 refine ⟨a, cap, rfl, by have : maxLen ≤ 9223372036854775807 := by decide
                         omega,fun hp=>?_⟩
 obtain⟨g,rfl,_,_,hd,_⟩:=hc hp
 exact⟨g,0,rfl,fun i hi=>by simpa using hd i hi⟩
theorem ownsRow_later {w w':World}{lo:Nat}{e:TypeId}{s:Nat}{v:Value}{k:Nat}{xs:List Value}(h:w.ownsRow lo e s v k xs)(hb:Below w.heap.size w w'):w'.ownsRow lo e s v k xs:=by
 obtain⟨h0,h1⟩:=h
 refine⟨h0,?_⟩
 rcases h1 with h1 | ⟨g,cap,cur,rfl,hlo,hg,h2⟩
 ·exact .inl h1
 ·exact .inr ⟨g,cap,cur,rfl,hlo,(hb.block g (Array.getElem?_eq_some_iff.1 hg).1).trans hg,h2⟩
theorem OwnInts.keep {w w':World}{lo:Nat}{v:Value}{l:List Int}(h:OwnInts w lo v l)(hb:Below w.heap.size w w'):OwnInts w' lo v l:=ownsRow_later h hb
theorem ownsRow_low {w:World}{lo lo':Nat}{e:TypeId}{s:Nat}{v:Value}{k:Nat}{xs:List Value}(h:w.ownsRow lo e s v k xs)(hl:lo'≤lo):w.ownsRow lo' e s v k xs:=by
 obtain⟨h0,h1⟩:=h
 refine⟨h0,?_⟩
 rcases h1 with h1 | ⟨g,cap,cur,rfl,hlo,h2⟩
 ·exact .inl h1
 ·exact .inr ⟨g,cap,cur,rfl,Nat.le_trans hl hlo,h2⟩
theorem OwnInts.low {w:World}{lo lo':Nat}{v:Value}{l:List Int}(h:OwnInts w lo v l)(hl:lo'≤lo):OwnInts w lo' v l:=ownsRow_low h hl
theorem IntsAt.under {w w':World}{v:Value}{l:List Int}(h:IntsAt w v l){lo:Nat}(hb:Below lo w w')(hv:∀a,v.ownBlock=some a→a<lo):IntsAt w' v l:=by
 obtain⟨a,cap,rfl,hm,hc⟩:=h
 refine⟨a,cap,rfl,hm,fun hp=>?_⟩
 obtain⟨b,off,rfl,hd⟩:=hc hp
 exact⟨b,off,rfl,fun i hi=>by rw[hb.cell (p:=⟨b,off+i,none⟩) (hv b rfl)];exact hd i hi⟩
def GivesOwn (w:World)(l:List Int)(e:Ending)(w':World):Prop := ∃v,e = .returned v∧OwnInts w' w.heap.size v l∧Below w.heap.size w w'
theorem ownInts_new (w:World):OwnInts (w.alloc (.cells #[] 3)) w.heap.size (.slice (some ⟨w.heap.size,0,none⟩) 0 0) [] :=
 ⟨rfl,.inr ⟨w.heap.size,0,#[],rfl,Nat.le_refl _,World.alloc_heap_new w _,Nat.le_refl _,Nat.zero_le _,rfl,rfl⟩⟩
end Go.Proofs.YtfnilamkapabkaaGreatDoor
namespace Go.Proofs.YtfnilamkapabkaaGreatDoor
open Go.ChangeShapes Go.WideShapes Go.ChangeAt Go.RowKit Go.Shelf
set_option linter.unusedVariables false
attribute [local go_sem] Oper.semAt_some
theorem keepsB_setCell {B b:Nat}(W:World)(v:Value)(h:b≠B):KeepsB B W (W.setCell ⟨b,0,none⟩ v):=Below.heap_setCell _ _ _ B (by intro e;exact h (by simpa using e.symm))
set_option maxRecDepth 100000 in
set_option maxHeartbeats 2000000 in
theorem goesTo_any (k a t e b:Int)(w:World) :
  Calls Tryz.prog 67 #[.agg #[.int .i64 k,.int .i64 a,.int .i64 t,.int .i64 e],.int .i64 b] w fun r w'=>r = .returned (.bool (decide (b∈succsV k t e)))∧Below w.heap.size w w':=by
 refine(callsIn_wide (n:=3)).1 ?_
 refine callsIn_of_wp_marks Tryz.func67 rfl trivial ?_ rfl
 simp only[Tryz.ntmps67,List.size_toArray,List.length_cons,List.length_nil,Nat.reduceAdd,Nat.reduceSub,Array.replicate_succ,Array.replicate_zero,List.push_toArray,List.append_toArray,List.nil_append,List.cons_append]
 gi_wp2_with (refine⟨trivial,?_⟩;gi_at_call 55;refine(callsIn_wide.2 (followers_any _ _ _ _ _)).mono ?_;rintro e w' ⟨rfl,rfl⟩)
 obtain⟨W0,hW0⟩:∃W0,(((w.alloc (.cells #[.int .i64 k,.int .i64 a,.int .i64 t,.int .i64 e] 42)).alloc (.cells #[.int .i64 b] 3)).alloc (.cells #[.bool false] 4)).alloc (.cells #[.int .i64 k,.int .i64 a,.int .i64 t,.int .i64 e] 42)=W0:=⟨_,rfl⟩
 have hsz:W0.heap.size=w.heap.size+4:=by rw[←hW0];simp
 have hB0:Below w.heap.size w W0:=by rw[←hW0];repeat (first | exact Below.refl _ _ | apply Below.drew | refine Below.alloc ?_ (by simp <;> omega) _ | refine Below.setCell ?_ (by simp <;> omega) _)
 have hb:Boxed W0 (w.heap.size+1) 3 (.int .i64 b):=by rw[←hW0];have:=Boxed.new (w.alloc (.cells #[.int .i64 k,.int .i64 a,.int .i64 t,.int .i64 e] 42)) 3 (.int .i64 b);rw[World.size_alloc] at this;exact(this.alloc _).alloc _
 have hr:Boxed W0 (w.heap.size+1+1) 4 (.bool false):=by rw[←hW0];have:=Boxed.new ((w.alloc (.cells #[.int .i64 k,.int .i64 a,.int .i64 t,.int .i64 e] 42)).alloc (.cells #[.int .i64 b] 3)) 4 (.bool false);rw[World.size_alloc,World.size_alloc] at this;exact this.alloc _
 have hT:EndBox W0 (w.heap.size+1+1+1) k a t e:=by rw[←hW0];have h:=EndBox.new (((w.alloc (.cells #[.int .i64 k,.int .i64 a,.int .i64 t,.int .i64 e] 42)).alloc (.cells #[.int .i64 b] 3)).alloc (.cells #[.bool false] 4)) k a t e;rw[World.size_alloc,World.size_alloc,World.size_alloc] at h;exact h
 rw[hW0]
 clear hW0
 refine wpIn_rangeFunc_ownF (α := {x:Int // True}) rfl (by omega) (gf:=109) (lb := #[.pointer (some ⟨w.heap.size+1+1+1,0,none⟩)]) rfl trivial (enters_of Tryz.func109 (by kernel_rfl) rfl)
  (followers_stops (fun _=>True) 2 (by omega) (w.heap.size+1+1+1) k a t e (fun _ _=>trivial) W0 (by omega) hT) keepsB_t (keepsB_b (by omega)) (Below.refl _ _) (fun _=>rfl)
  (fun pre W=>((∀y∈pre,y.1≠b)∧W.cell? ⟨w.heap.size+1,0,none⟩=some (.int .i64 b)∧W.cell? ⟨w.heap.size+1+1,0,none⟩=some (.bool false)∧W.frozen? ⟨w.heap.size+1+1,0,none⟩=false)∧Below w.heap.size w W)
  (fun c pre W=>(c = .ret∧b∈pre.map (fun x=>x.1)∧W.cell? ⟨w.heap.size+1+1,0,none⟩=some (.bool true))∧Below w.heap.size w W)
  (OwnFrom.and (Own.from (fun s A B row hs hg hr=>⟨hs.1,cell_kept hs.2.1 hg hr,cell_kept hs.2.2.1 hg hr,(frozen_kept hs.2.2.1 hg hr).trans hs.2.2.2⟩) _) (ownFrom_below (Nat.le_refl _) (by omega)))
  (fun c=>OwnFrom.and (Own.from (fun s A B row hs hg hr=>⟨hs.1,hs.2.1,cell_kept hs.2.2 hg hr⟩) _) (ownFrom_below (Nat.le_refl _) (by omega)))
  ⟨⟨by simp,hb.cell,hr.cell,hr.frozen⟩,hB0⟩
  (fun x=>{ tmps := #[.agg #[.int .i64 k,.int .i64 a,.int .i64 t,.int .i64 e],.int .i64 b,.pointer (some ⟨w.heap.size,0,none⟩),.pointer (some ⟨w.heap.size+1,0,none⟩),.pointer (some ⟨w.heap.size+1+1,0,none⟩),.int .i64 x.1,.agg #[.int .i64 k,.int .i64 a,.int .i64 t,.int .i64 e],.func (.func 109) #[] #[.pointer (some ⟨w.heap.size+1+1+1,0,none⟩)],.int .i64 x.1,undef,undef,undef],defers := [] }) ?assign ?body ?done ?stop
 case assign=>
  intro l x W K hK
  gi_wp2
  exact hK
 case body=>
  rintro l pre x W ⟨⟨hp,hcw,hcr,hfr⟩,hB⟩ _
  gi_wp2
  ·rename_i hx
   obtain hx:x.1=b:=eq_of_beq hx
   exact⟨KeepsOthers.setCell _ _ _,⟨rfl,by simp[hx],World.cell?_setCell_same' _ _ _ (by rw[hcr];rfl)⟩,hB.setCell (p:=⟨w.heap.size+1+1,0,none⟩) (by simp <;> omega) _⟩
  ·rename_i hx
   refine⟨KeepsOthers.refl _,rfl,⟨fun y hy=>(List.mem_append.1 hy).elim (hp y) (fun e' e2=>?_),hcw,hcr,hfr⟩,hB⟩
   simp at e'
   subst e'
   simp[e2] at hx
 case done=>
  rintro D ys W hD hS ⟨⟨hne,_,hcr,hfr⟩,hB⟩ hK
  gi_wp2
  have hK':=(KeepsOthers.setCell W ⟨w.heap.size+1+1,0,none⟩ (.bool false)).same D _ hK rfl
  refine⟨by simp,.inl ⟨_,_,rfl,run_takeDeferred hK',?_⟩⟩
  have hc5:=cell_kept (World.cell?_setCell_same' W ⟨w.heap.size+1+1,0,none⟩ (.bool false) (by rw[hcr];rfl)) (grownBy_putObj' _ D (.deferred none)) (fun r e=>by cases e;exact⟨_,hK',rfl⟩)
  refine⟨.bool false,?_,?_,(hB.setCell (p:=⟨w.heap.size+1+1,0,none⟩) (by simp <;> omega) _).trans (belowK_b (w:=w) (Nat.le_refl _) _ D _ _ (by omega) hK' rfl rfl)⟩
  ·simp[results,Tryz.f67,go_sem,hc5]
  ·rw[decide_eq_false]
   rw[←hS]
   intro h
   obtain⟨y,hy,e⟩:=List.mem_map.1 h
   exact hne y hy e
 case stop=>
  rintro D c pre W hD hpre ⟨⟨rfl,hin,hcr⟩,hB⟩ hK
  gi_wp2
  refine⟨by simp,.inl ⟨_,_,rfl,run_takeDeferred hK,?_⟩⟩
  have hc5:=cell_kept hcr (grownBy_putObj' _ D (.deferred none)) (fun r e=>by cases e;exact⟨_,hK,rfl⟩)
  refine⟨.bool true,?_,by rw[decide_eq_true (hpre.subset hin)],hB.trans (belowK_b (w:=w) (Nat.le_refl _) W D _ _ (by omega) hK rfl rfl)⟩
  simp[results,Tryz.f67,go_sem,hc5]
end Go.Proofs.YtfnilamkapabkaaGreatDoor
