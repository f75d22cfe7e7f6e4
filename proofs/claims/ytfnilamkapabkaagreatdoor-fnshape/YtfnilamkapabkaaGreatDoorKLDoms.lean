/- Rows of numbers: a list of lists that a call has made. The model's dominators: who is reached without a block, and the lists of those that dominate. The model's lists of those that dominate. -/
import Derived.Test.YtfnilamkapabkaaGreatDoorKOrd
import Derived.Test.YtfnilamkapabkaaGreatDoorKDfs
namespace Go.Proofs.YtfnilamkapabkaaGreatDoor
open Go.ChangeShapes Go.WideShapes Go.ChangeAt Go.RowKit Go.Shelf
set_option linter.unusedVariables false
theorem ownInts_none (w:World)(lo:Nat):OwnInts w lo (.slice none 0 0) []:=⟨rfl,.inl ⟨rfl,rfl⟩⟩
structure OwnRows (w:World)(lo g n:Nat)(us:Array Value)(ls:Nat→List Int):Prop where
 box:w.heap[g]? = some (.cells us 29 (0,0))
 size:us.size=n
 low:lo≤g
 row:∀i,i<n→OwnInts w lo (us.getD i (.slice none 0 0)) (ls i)
 apart:∀i j,i<n→j<n→i≠j→Apart (us.getD i (.slice none 0 0)) (us.getD j (.slice none 0 0))
theorem OwnRows.lt {w:World}{lo g n:Nat}{us:Array Value}{ls:Nat→List Int}(h:OwnRows w lo g n us ls):g<w.heap.size:=(Array.getElem?_eq_some_iff.1 h.box).1
theorem OwnRows.keep {w w':World}{lo g n:Nat}{us:Array Value}{ls:Nat→List Int}(h:OwnRows w lo g n us ls)(hb:Below w.heap.size w w'):OwnRows w' lo g n us ls :=
 ⟨(hb.block g h.lt).trans h.box,h.size,h.low,fun i hi=>(h.row i hi).keep hb,h.apart⟩
theorem OwnRows.lower {w:World}{lo lo' g n:Nat}{us:Array Value}{ls:Nat→List Int}(h:OwnRows w lo g n us ls)(hl:lo'≤lo):OwnRows w lo' g n us ls :=
 ⟨h.box,h.size,Nat.le_trans hl h.low,fun i hi=>(h.row i hi).low hl,h.apart⟩
theorem OwnRows.congr {w:World}{lo g n:Nat}{us:Array Value}{ls ms:Nat→List Int}(h:OwnRows w lo g n us ls)(e:∀i,i<n→ls i=ms i):OwnRows w lo g n us ms :=
 ⟨h.box,h.size,h.low,fun i hi=>by rw[←e i hi];exact h.row i hi,h.apart⟩
theorem OwnRows.cell {w:World}{lo g n:Nat}{us:Array Value}{ls:Nat→List Int}(h:OwnRows w lo g n us ls){i:Nat}(hi:i<n):w.cell? ⟨g,i,none⟩=some (us.getD i (.slice none 0 0)):=by
 have:i<us.size:=by rw[h.size];exact hi
 simp[World.cell?,h.box,this]
theorem OwnRows.frozen {w:World}{lo g n:Nat}{us:Array Value}{ls:Nat→List Int}(h:OwnRows w lo g n us ls)(i:Nat):w.frozen? ⟨g,i,none⟩=false:=by simp[World.frozen?,h.box]
theorem made_getD (n i:Nat):(madeCells #[.slice none 0 0] n).getD i (.slice none 0 0) = .slice none 0 0:=by
 have:madeCells #[Value.slice none 0 0] n=(List.replicate n (Value.slice none 0 0)).toArray:=by
  apply Array.toList_inj.1
  rw[toList_madeCells_one]
 rw[this]
 by_cases h:i<n <;> simp[Array.getD,h]
theorem made_size (n:Nat):(madeCells #[.slice none 0 0] n).size=n:=by
 rw[←Array.length_toList,toList_madeCells_one]
 simp
theorem ownRows_new {w:World}{n g lo:Nat}(hg:w.heap.size=g)(hl:lo≤g):OwnRows (w.alloc (.cells (madeCells #[.slice none 0 0] n) 29)) lo g n (madeCells #[.slice none 0 0] n) (fun _=>[]):=by
 subst hg
 refine⟨World.alloc_heap_new w _,made_size n,hl,fun i _=>?_,fun i j _ _ _=>?_⟩
 ·rw[made_getD];exact ownInts_none _ _
 ·rw[made_getD];intro k hk;simp[Value.ownBlock] at hk
theorem make_rows (n:Nat)(hn:n≤1048576)(w:World) :
  (Instr.makeSlice 33 (.int .i64 (n:Int)) (.int .i64 (n:Int))).run Tryz.prog w = .ok (.slice (some ⟨w.heap.size,0,none⟩) n n) (w.alloc (.cells (madeCells #[.slice none 0 0] n) 29)):=by
 have h:=make_of (z := .slice none 0 0) (size:=1) (bytes:=24) Tryz.underlying33 (by kernel_rfl) n (by omega) (by omega) w
 rw[Nat.mul_one] at h
 exact h
theorem OwnRows.put {w:World}{lo g n:Nat}{us:Array Value}{ls:Nat→List Int}(h:OwnRows w lo g n us ls){b:Nat}(hb:b<n){v:Value}{l:List Int}(hv:OwnInts w lo v l)(ha:∀i,i<n→i≠b→Apart (us.getD i (.slice none 0 0)) v) :
  OwnRows (w.setCell ⟨g,b,none⟩ v) lo g n (us.setIfInBounds b v) (fun i=>if i=b then l else ls i):=by
 have hbs:b<us.size:=by rw[h.size];exact hb
 have hgd:∀i,i<n→(us.setIfInBounds b v).getD i (.slice none 0 0)=if i=b then v else us.getD i (.slice none 0 0):=fun i hi=>by
  have his:i<us.size:=by rw[h.size];exact hi
  by_cases e:i=b
  ·subst e
   simp[Array.getD,his]
  ·have e2:¬b=i:=fun h=>e h.symm
   simp[Array.getD,his,e,e2]
 refine⟨?_,by simp[h.size],h.low,fun i hi=>?_,fun i j hi hj hne=>?_⟩
 ·obtain⟨hlt,hk⟩:=Array.getElem?_eq_some_iff.1 h.box
  show(w.heap.modify g _)[g]? = _
  rw[Array.getElem?_eq_getElem (by rw[Array.size_modify];exact hlt),Array.getElem_modify_self,hk]
  rfl
 ·rw[hgd i hi]
  by_cases e:i=b
  ·simp only[e,if_true]
   exact hv.set (hv.not_box h.box (by decide)) _ _
  ·simp only[e,if_false]
   exact(h.row i hi).set ((h.row i hi).not_box h.box (by decide)) _ _
 ·rw[hgd i hi,hgd j hj]
  by_cases e:i=b
  ·have e2:¬j=b:=fun h=>hne (e.trans h.symm)
   simp only[e,e2,if_true,if_false]
   intro k hk hk2
   exact ha j hj e2 k hk2 hk
  ·by_cases e2:j=b
   ·simp only[e,e2,if_true,if_false]
    exact ha i hi e
   ·simp only[e,e2,if_false]
    exact h.apart i j hi hj hne
theorem OwnRows.grown {W wa:World}{lo g n:Nat}{us:Array Value}{ls:Nat→List Int}(h:OwnRows W lo g n us ls){b:Nat}(hb:b<n){o:Obj}(hg:(W.alloc o).grownBy wa (us.getD b (.slice none 0 0)).ownBlock){v':Value}{l:List Int}(hv:OwnInts wa lo v' l)
  (hat:v'.ownBlock=(us.getD b (.slice none 0 0)).ownBlock∨v'.ownBlock=some (W.alloc o).heap.size) :
  wa.cell? ⟨g,b,none⟩=some (us.getD b (.slice none 0 0))∧wa.frozen? ⟨g,b,none⟩=false∧OwnRows (wa.setCell ⟨g,b,none⟩ v') lo g n (us.setIfInBounds b v') (fun i=>if i=b then l else ls i):=by
 have hgl:=h.lt
 have hbx:wa.heap[g]? = some (.cells us 29 (0,0)):=(hg.block g (by simp;omega) ((h.row b hb).not_box h.box (by decide))).trans ((Below.heap_alloc W _ g hgl).trans h.box)
 have hbs:b<us.size:=by rw[h.size];exact hb
 refine⟨by simp[World.cell?,hbx,hbs],by simp[World.frozen?,hbx],?_⟩
 have key:∀i,i<n→i≠b→OwnInts wa lo (us.getD i (.slice none 0 0)) (ls i):=fun i hi hne=>by
  refine World.ownsRow.kept (World.ownsRow.alloc (h.row i hi) _) hg ?_
  by_cases hn:∃k,(us.getD i (.slice none 0 0)).ownBlock=some k
  ·obtain⟨k,hk⟩:=hn
   exact .inr (fun e=>h.apart i b hi hb hne k hk (by rw[←e];exact hk))
  ·rcases(h.row i hi).2 with ⟨e,_⟩ | ⟨g',cap,cur,e,_⟩
   ·exact .inl (by rw[e];rfl)
   ·exact absurd ⟨g',by rw[e];simp[Value.ownBlock]⟩ hn
 have hb2:∀i,i<n→i≠b→Apart (us.getD i (.slice none 0 0)) v':=fun i hi hne k hk hk2=>by
  rcases hat with e | e
  ·exact h.apart i b hi hb hne k hk (by rw[←e];exact hk2)
  ·have h1:=(World.ownsRow.lt (h.row i hi) k hk).2
   rw[e] at hk2
   simp at hk2
   omega
 have hgd:∀i,i<n→(us.setIfInBounds b v').getD i (.slice none 0 0)=if i=b then v' else us.getD i (.slice none 0 0):=fun i hi=>by
  have his:i<us.size:=by rw[h.size];exact hi
  by_cases e:i=b
  ·subst e
   simp[Array.getD,his]
  ·have e2:¬b=i:=fun h=>e h.symm
   simp[Array.getD,his,e,e2]
 refine⟨?_,by simp[h.size],h.low,fun i hi=>?_,fun i j hi hj hne=>?_⟩
 ·obtain⟨hlt,hk⟩:=Array.getElem?_eq_some_iff.1 hbx
  show(wa.heap.modify g _)[g]? = _
  rw[Array.getElem?_eq_getElem (by rw[Array.size_modify];exact hlt),Array.getElem_modify_self,hk]
  rfl
 ·rw[hgd i hi]
  by_cases e:i=b
  ·simp only[e,if_true]
   exact hv.set (hv.not_box hbx (by decide)) _ _
  ·simp only[e,if_false]
   exact(key i hi e).set ((key i hi e).not_box hbx (by decide)) _ _
 ·rw[hgd i hi,hgd j hj]
  by_cases e:i=b
  ·have e2:¬j=b:=fun h=>hne (e.trans h.symm)
   simp only[e,e2,if_true,if_false]
   intro k hk hk2
   exact hb2 j hj e2 k hk2 hk
  ·by_cases e2:j=b
   ·simp only[e,e2,if_true,if_false]
    exact hb2 i hi e
   ·simp only[e,e2,if_false]
    exact h.apart i j hi hj hne
end Go.Proofs.YtfnilamkapabkaaGreatDoor
namespace Go.Proofs.YtfnilamkapabkaaGreatDoor
open Go.ChangeShapes Go.WideShapes Go.ChangeAt Go.RowKit Go.Shelf
set_option linter.unusedVariables false
theorem OwnRows.other {W wa:World}{lo g n:Nat}{us:Array Value}{ls:Nat→List Int}(h:OwnRows W lo g n us ls){b:Nat}(hb:b<n){o:Obj}(hg:(W.alloc o).grownBy wa (us.getD b (.slice none 0 0)).ownBlock){B:Nat}{c:Array Value}{t:TypeId}{z:Nat × Nat}(hB:W.heap[B]? = some (.cells c t z))(ht:t≠3)(hne:B≠g)(v':Value) :
  (wa.setCell ⟨g,b,none⟩ v').heap[B]? = some (.cells c t z):=by
 have hl:=(Array.getElem?_eq_some_iff.1 hB).1
 rw[Below.heap_setCell _ _ _ B hne]
 exact(hg.block B (by simp;omega) ((h.row b hb).not_box hB ht)).trans ((Below.heap_alloc W _ B hl).trans hB)
end Go.Proofs.YtfnilamkapabkaaGreatDoor
