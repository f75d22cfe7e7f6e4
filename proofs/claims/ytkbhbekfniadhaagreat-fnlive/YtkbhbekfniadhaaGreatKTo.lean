/- The laws' own programs, copied into the program's types: the copy reads the same, in new memory. A program is marked: only its own cells turn, numbers into numbers. Marking a program turns its own numbers alone. The blocks that follow a block: the program's iterator by its contract, for every end of a block. Lists of numbers that a call has made: read, marked, kept. -/
import Derived.Test.YtkbhbekfniadhaaGreatTk0
import Derived.Test.YtkbhbekfniadhaaGreatKIns
import Derived.Handy
import Derived.OwnWalk
import Derived.RowKit3
import Derived.RangeFuncNested
import Derived.RangeFuncBound
import Derived.RangeFuncCalls
import Derived.RangeFuncLeaves
import Derived.Shelf.Abstract
import Derived.Shelf.RegionOpen
import Derived.WalkKit
import Derived.OwnWalkIn
import Derived.TacticsInMore
import Derived.LoopNIn
import Derived.LoopIn
import Derived.Laws.AppendOwn
import Derived.RangeFuncBox
set_option maxRecDepth 100000
set_option maxHeartbeats 1000000
namespace Go.Proofs.YtkbhbekfniadhaaGreat
open Go.ChangeShapes Go.WideShapes Go.ChangeAt Go.RowKit Go.Shelf
set_option linter.unusedVariables false
theorem aeB {P:Program}{t e:TypeId}{z:Value}{size bytes:Nat}(ht:P.underlying t=some (.slice e))(hi:(P.info? e).map (fun i=>(i.zero,i.size,i.bytes))=some (some z,size,bytes))(n:Nat)(hn:bytes*n≤281474976710656)(hn2:n≤9223372036854775807)(w:World) :
  (Instr.makeSlice t (vi (n:Int)) (vi (n:Int))).run P w=.ok (sq w.heap.size 0 n n) (w.alloc (.cells (madeCells z.cells (n*size)) e)):=by
 obtain⟨i,h1,h2,h3,h4⟩:=info_parts hi;have hb:((i.bytes:Nat):Int)*(n:Int)≤281474976710656:=by
  rw[h4];have:((bytes*n:Nat):Int)≤281474976710656:=by omega
  rwa [Int.natCast_mul] at this
 have h:=run_make (P:=P) w t e i z ht h1 h2 .i64 .i64 (n:Int) (n:Int) (by omega) (by omega) hb (by omega);simpa [h3] using h
def acu (x:yy):Prop:=x.arms.length≤1048576
def X8 (x:jc):Prop:=x.phis.length≤1048576∧x.list.length≤1048576∧∀p∈x.phis,acu p
def JR (F:FnD):Prop:=F.blocks.length≤1048576∧∀b∈F.blocks,X8 b
end Go.Proofs.YtkbhbekfniadhaaGreat
namespace Go.Proofs.YtkbhbekfniadhaaGreat
open Go.ChangeShapes Go.WideShapes Go.ChangeAt Go.RowKit Go.Shelf
set_option linter.unusedVariables false
end Go.Proofs.YtkbhbekfniadhaaGreat
namespace Go.Proofs.YtkbhbekfniadhaaGreat
open Go.ChangeShapes Go.WideShapes Go.ChangeAt Go.RowKit Go.Shelf
set_option linter.unusedVariables false
end Go.Proofs.YtkbhbekfniadhaaGreat
namespace Go.Proofs.YtkbhbekfniadhaaGreat
open Go.ChangeShapes Go.WideShapes Go.ChangeAt Go.RowKit Go.Shelf
set_option linter.unusedVariables false
attribute [local go_sem] Oper.semAt_some
def xR (k t e:Int):List Int:=if k=1 then [t] else if k=2 then(if e=t then [t] else [t,e]) else []
theorem aav (t e:Int):xR 1 t e = [t]:=by simp[xR]
theorem abB {t e:Int}(h:e=t):xR 2 t e = [t]:=by simp[xR,h]
theorem abC {t e:Int}(h:¬e=t):xR 2 t e = [t,e]:=by simp[xR,h]
theorem aaw {k t e:Int}(h1:¬k=1)(h2:¬k=2):xR k t e = []:=by simp[xR,h1,h2]
def aax (B:Nat)(W W':World):Prop:=W'.heap[B]?=W.heap[B]?
theorem aip {B:Nat}{X Y Z:World}(h:aax B X Y)(k:aax B Y Z):aax B X Z:=k.trans h
theorem aiC {B:Nat}{w:World}(hB:B<w.heap.size)(W:World)(l:Nat)(o o':Obj)(hl:w.heap.size≤l)(_:W.heap[l]?=some o)(_:o.isCells=false)(_:o.isWalk=false):aax B W (W.putObj l o'):=World.putObj_heap_other (by omega)
def Jh (W:World)(B:Nat)(k a t e:Int):Prop:=W.heap[B]?=some (.cells #[vi k,vi a,vi t,vi e] 41 (0,0))
theorem Jh.cells {W:World}{B:Nat}{k a t e:Int}(h:Jh W B k a t e):W.cell? (Z B 0)=some (vi k)∧W.cell? (Z B 1)=some (vi a)∧W.cell? (Z B 2)=some (vi t)∧W.cell? (Z B 3)=some (vi e):=by
 refine⟨?_,?_,?_,?_⟩ <;> simp[World.cell?,show W.heap[B]?=_ from h]
theorem Jh.kept {W W':World}{B:Nat}{k a t e:Int}(h:Jh W B k a t e)(hk:aax B W W'):Jh W' B k a t e:=hk.trans h
theorem Jh.lt {W:World}{B:Nat}{k a t e:Int}(h:Jh W B k a t e):B<W.heap.size:=(aI h).1
theorem Jh.new (W:World)(k a t e:Int):Jh (W.alloc (.cells #[vi k,vi a,vi t,vi e] 41)) W.heap.size k a t e:=World.alloc_heap_new W _
theorem Jh.own {β:Type}(B:Nat)(k a t e:Int):Own (fun(_:β) W=>Jh W B k a t e):=fun s X Y row hs hg hr=>
 (hg.block B (Jh.lt hs) (fun e'=>by
  obtain⟨o,ho,hc⟩:=hr B e'.symm
  rw[show X.heap[B]?=_ from hs] at ho;cases ho;cases hc)).trans hs
theorem Jh.not_row {W:World}{B:Nat}{k a t e:Int}(h:Jh W B k a t e){base size n:Nat}{v:Value}{xs:List Value}(hr:W.ownsRow base 3 size v n xs):some B≠v.ownBlock:=by
 rcases hr.2 with ⟨rfl,_⟩ | ⟨g,cap,cur,rfl,_,hgb,_⟩
 ·simp[Value.ownBlock]
 ·intro e';obtain rfl:B=g:=by simpa [Value.ownBlock] using e'
  have:=(show W.heap[B]?=_ from h).symm.trans hgb;simp at this
theorem acv (k a t e:Int)(w:World) :
  Calls Tryz.prog 44 #[.agg #[vi k,vi a,vi t,vi e]] w fun r w'=>r=.returned (.func (.func 67) #[] #[.pointer (some (Z w.heap.size 0))])∧w'=w.alloc (.cells #[vi k,vi a,vi t,vi e] 41):=by
 go_enter Tryz.func44,Tryz.ntmps44
 go_wp2;go_ret;exact⟨rfl,rfl⟩
theorem seq_any (Q:Int→Prop)(n:Nat)(hn:1≤n)(l B:Nat)(k a t e:Int)(hQ:∀x∈xR k t e,Q x)(J Jx:List {x // Q x}→World→Prop)
  (hY:∀pre x W,J pre W→pre.length<2→YieldAt Fence.wide (n-1) Tryz.prog l #[vi x.1] W fun r W'=>
   (r=.returned (.bool true)∧J (pre ++ [x]) W'∧aax B W W')∨(r=.returned (.bool false)∧Jx (pre ++ [x]) W'))
  (W:World) (hB:Jh W B k a t e) (h0:J [] W) :
  CallsIn Fence.wide n Tryz.prog 67 #[.func (.yield l) #[] #[],.pointer (some (Z B 0))] W fun r W'=>(∃v,r=.returned v) ∧
   ((∃ys:List {x // Q x},ys.map (fun x=>x.1)=xR k t e∧J ys W')∨(∃pre:List {x // Q x},(pre.map (fun x=>x.1) <+: xR k t e)∧Jx pre W')):=by
 by_cases h1:k=1
 ·subst h1;rw[aav] at hQ ⊢;refine callsIn_of_wp Tryz.func67 rfl trivial ?_ rfl;simp only[Tryz.ntmps67,List.size_toArray,List.length_cons,List.length_nil,Nat.reduceAdd,Nat.reduceSub,Array.replicate_succ,Array.replicate_zero,List.push_toArray,List.append_toArray,List.nil_append,List.cons_append];obtain⟨f1,t1,a1,b1,hy1,hR1⟩:=hY [] ⟨t,hQ t (by simp)⟩ W h0 (by simp);dsimp only at hy1;obtain⟨c0,c1,c2,c3⟩:=hB.cells
  gi_wp2
  refine hR1.mono ?_;rintro r W1 (⟨rfl,hJ1,hk1⟩ | ⟨rfl,hx1⟩)
  ·gi_wp2
   go_end0
   exact⟨⟨_,rfl⟩,.inl ⟨_,by simp,hJ1⟩⟩
  ·gi_wp2
   go_end0
   exact⟨⟨_,rfl⟩,.inr ⟨_,by simp,hx1⟩⟩
 ·by_cases h2:k=2
  ·subst h2;by_cases het:e=t
   ·subst het;rw[abB rfl] at hQ ⊢;refine callsIn_of_wp Tryz.func67 rfl trivial ?_ rfl;simp only[Tryz.ntmps67,List.size_toArray,List.length_cons,List.length_nil,Nat.reduceAdd,Nat.reduceSub,Array.replicate_succ,Array.replicate_zero,List.push_toArray,List.append_toArray,List.nil_append,List.cons_append];obtain⟨f1,t1,a1,b1,hy1,hR1⟩:=hY [] ⟨e,hQ e (by simp)⟩ W h0 (by simp);dsimp only at hy1;have HB:Hid (Jh W B 2 a e e):=hB;obtain⟨c0,c1,c2,c3⟩:=hB.cells
    gi_wp2
    refine hR1.mono ?_;rintro r W1 (⟨rfl,hJ1,hk1⟩ | ⟨rfl,hx1⟩)
    ·obtain⟨d0,d1,d2,d3⟩:=(HB.out.kept hk1).cells
     gi_wp2
     go_end0
     exact⟨⟨_,rfl⟩,.inl ⟨_,by simp,hJ1⟩⟩
    ·gi_wp2
     go_end0
     exact⟨⟨_,rfl⟩,.inr ⟨_,by simp,hx1⟩⟩
   ·rw[abC het] at hQ ⊢;refine callsIn_of_wp Tryz.func67 rfl trivial ?_ rfl;simp only[Tryz.ntmps67,List.size_toArray,List.length_cons,List.length_nil,Nat.reduceAdd,Nat.reduceSub,Array.replicate_succ,Array.replicate_zero,List.push_toArray,List.append_toArray,List.nil_append,List.cons_append];obtain⟨f1,t1,a1,b1,hy1,hR1⟩:=hY [] ⟨t,hQ t (by simp)⟩ W h0 (by simp);dsimp only at hy1;have HB:Hid (Jh W B 2 a t e):=hB;obtain⟨c0,c1,c2,c3⟩:=hB.cells
    gi_wp2
    refine hR1.mono ?_;rintro r W1 (⟨rfl,hJ1,hk1⟩ | ⟨rfl,hx1⟩)
    ·obtain⟨d0,d1,d2,d3⟩:=(HB.out.kept hk1).cells;obtain⟨f2,t2,a2,b2,hy2,hR2⟩:=hY _ ⟨e,hQ e (by simp)⟩ W1 hJ1 (by simp);dsimp only at hy2;have h:(e == t)=false:=by simp[het]
     gi_wp2
     refine hR2.mono ?_;rintro r W2 (⟨rfl,hJ2,_⟩ | ⟨rfl,hx2⟩)
     ·gi_wp2
      go_end0
      exact⟨⟨_,rfl⟩,.inl ⟨_,by simp,hJ2⟩⟩
     ·gi_wp2
      go_end0
      exact⟨⟨_,rfl⟩,.inr ⟨_,by simp,hx2⟩⟩
    ·gi_wp2
     go_end0
     exact⟨⟨_,rfl⟩,.inr ⟨_,by simp,hx1⟩⟩
  ·rw[aaw h1 h2] at hQ ⊢;have g1:(k == 1)=false:=by simp[h1]
   have g2:(k == 2)=false:=by simp[h2]
   refine callsIn_of_wp Tryz.func67 rfl trivial ?_ rfl;simp only[Tryz.ntmps67,List.size_toArray,List.length_cons,List.length_nil,Nat.reduceAdd,Nat.reduceSub,Array.replicate_succ,Array.replicate_zero,List.push_toArray,List.append_toArray,List.nil_append,List.cons_append];obtain⟨c0,c1,c2,c3⟩:=hB.cells
   gi_wp2
   go_end0
   exact⟨⟨_,rfl⟩,.inl ⟨[],by simp,h0⟩⟩
theorem aay (Q:Int→Prop)(n:Nat)(hn:1≤n)(B:Nat)(k a t e:Int)(hQ:∀x∈xR k t e,Q x)(w:World)(hlt:B<w.heap.size)(hB:Jh w B k a t e) :
  SeqStopsK Fence.wide n Tryz.prog 67 #[.pointer (some (Z B 0))] (fun x:{x // Q x}=>#[vi x.1]) (aax B) (fun ys=>ys.map (fun x=>x.1)=xR k t e) (fun pre=>pre.map (fun x=>x.1) <+: xR k t e) 2 w:=fun l J Jx W hW _ _ hY h0=>
 seq_any Q n hn l B k a t e hQ J Jx hY W (hB.kept (hW.block B hlt)) h0
end Go.Proofs.YtkbhbekfniadhaaGreat
namespace Go.Proofs.YtkbhbekfniadhaaGreat
open Go.ChangeShapes Go.WideShapes Go.ChangeAt Go.RowKit Go.Shelf
set_option linter.unusedVariables false
def ja (w:World)(lo:Nat)(v:Value)(l:List Int):Prop:=w.ownsRow lo 3 1 v l.length (l.map (fun x=>vi x))
theorem ja.small {w:World}{lo:Nat}{v:Value}{l:List Int}(h:ja w lo v l):l.length≤maxLen:=by
 rcases h.2 with ⟨_,h0⟩ | ⟨g,cap,cur,_,_,_,h1,h2,_⟩
 ·rw[h0];exact Nat.zero_le _
 ·omega
theorem ja.row {w:World}{lo:Nat}{v:Value}{l:List Int}(h:ja w lo v l) :
  ∃a cap,v=.slice a l.length cap∧(0<l.length→∃g,a=some (Z g 0)∧lo≤g∧g<w.heap.size∧(∀i,i<l.length→w.cell? (Z g i)=some (vi (l.getD i 0)))∧∀i,w.frozen? (Z g i)=false):=by
 rcases h.2 with ⟨rfl,h0⟩ | ⟨g,cap,cur,rfl,hlo,hg,h1,h2,h3,h4⟩
 ·exact⟨none,0,by rw[h0],fun hp=>absurd hp (by omega)⟩
 ·refine⟨_,cap,rfl,fun hp=>⟨g,rfl,hlo,(aI hg).1,fun i hi=>?_,fun i=>?_⟩⟩
  ·have hs:i<cur.size:=by omega
   have e:cur[i]?=some (vi (l.getD i 0)):=by
    have e1:(cur.toList.take (l.length*1))[i]?=cur[i]?:=by rw[List.getElem?_take];simp[hi]
    rw[←e1,h4,List.getElem?_map];simp[List.getD,hi]
   simp[World.cell?,hg,e]
  ·simp[World.frozen?,hg]
theorem ja.at {w:World}{lo:Nat}{v:Value}{l:List Int}(h:ja w lo v l):jV w v l:=by
 have hs:=h.small;obtain⟨a,cap,rfl,hc⟩:=h.row
 refine ⟨a, cap, rfl, by have : maxLen ≤ 9223372036854775807 := by decide
                         omega,fun hp=>?_⟩
 obtain⟨g,rfl,_,_,hd,_⟩:=hc hp;exact⟨g,0,rfl,fun i hi=>by simpa using hd i hi⟩
theorem y8 {w w':World}{lo:Nat}{e:TypeId}{s:Nat}{v:Value}{k:Nat}{xs:List Value}(h:w.ownsRow lo e s v k xs)(hb:Below w.heap.size w w'):w'.ownsRow lo e s v k xs:=by
 obtain⟨h0,h1⟩:=h;refine⟨h0,?_⟩;rcases h1 with h1 | ⟨g,cap,cur,rfl,hlo,hg,h2⟩
 ·exact .inl h1
 ·exact .inr ⟨g,cap,cur,rfl,hlo,(hb.block g (aI hg).1).trans hg,h2⟩
theorem ja.keep {w w':World}{lo:Nat}{v:Value}{l:List Int}(h:ja w lo v l)(hb:Below w.heap.size w w'):ja w' lo v l:=y8 h hb
theorem Qv {w:World}{lo lo':Nat}{e:TypeId}{s:Nat}{v:Value}{k:Nat}{xs:List Value}(h:w.ownsRow lo e s v k xs)(hl:lo'≤lo):w.ownsRow lo' e s v k xs:=by
 obtain⟨h0,h1⟩:=h;refine⟨h0,?_⟩;rcases h1 with h1 | ⟨g,cap,cur,rfl,hlo,h2⟩
 ·exact .inl h1
 ·exact .inr ⟨g,cap,cur,rfl,Nat.le_trans hl hlo,h2⟩
theorem ja.low {w:World}{lo lo':Nat}{v:Value}{l:List Int}(h:ja w lo v l)(hl:lo'≤lo):ja w lo' v l:=Qv h hl
def JS (w:World)(l:List Int)(e:Ending)(w':World):Prop := ∃v,e=.returned v∧ja w' w.heap.size v l∧Below w.heap.size w w'
theorem JT (w:World):ja (w.alloc (.cells #[] 3)) w.heap.size (sq w.heap.size 0 0 0) [] :=
 ⟨rfl,.inr ⟨w.heap.size,0,#[],rfl,Nat.le_refl _,World.alloc_heap_new w _,Nat.le_refl _,Nat.zero_le _,rfl,rfl⟩⟩
end Go.Proofs.YtkbhbekfniadhaaGreat
