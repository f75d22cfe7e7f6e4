/- Rows of numbers: a list of lists that a call has made. Lists of lists in memory: compared, marked, held against the marks. Which values are needed: the answers of LiveIn and LiveOut. -/
import Derived.Test.YtkbhbekfniadhaaGreatTk0
import Derived.Test.YtkbhbekfniadhaaGreatKPre
import Derived.Test.YtkbhbekfniadhaaGreatKDfs
import Derived.Test.YtkbhbekfniadhaaGreatKLDef
import Derived.Test.YtkbhbekfniadhaaGreatKLPl
namespace Go.Proofs.YtkbhbekfniadhaaGreat
open Go.ChangeShapes Go.WideShapes Go.ChangeAt Go.RowKit Go.Shelf
set_option linter.unusedVariables false
theorem aio (w:World)(lo:Nat):ja w lo (.slice none 0 0) []:=⟨rfl,.inl ⟨rfl,rfl⟩⟩
structure q6 (w:World)(lo g n:Nat)(us:Array Value)(ls:Nat→List Int):Prop where
 box:w.heap[g]?=some (.cells us 30 (0,0))
 size:n≤us.size
 low:lo≤g
 row:∀i,i<n→ja w lo (us.getD i (.slice none 0 0)) (ls i)
 apart:∀i j,i<n→j<n→i≠j→af3 (us.getD i (.slice none 0 0)) (us.getD j (.slice none 0 0))
theorem q6.lt {w:World}{lo g n:Nat}{us:Array Value}{ls:Nat→List Int}(h:q6 w lo g n us ls):g<w.heap.size:=(aI h.box).1
theorem q6.keep {w w':World}{lo g n:Nat}{us:Array Value}{ls:Nat→List Int}(h:q6 w lo g n us ls)(hb:Below w.heap.size w w'):q6 w' lo g n us ls :=
 ⟨(hb.block g h.lt).trans h.box,h.size,h.low,fun i hi=>(h.row i hi).keep hb,h.apart⟩
theorem q6.lower {w:World}{lo lo' g n:Nat}{us:Array Value}{ls:Nat→List Int}(h:q6 w lo g n us ls)(hl:lo'≤lo):q6 w lo' g n us ls :=
 ⟨h.box,h.size,Nat.le_trans hl h.low,fun i hi=>(h.row i hi).low hl,h.apart⟩
theorem q6.congr {w:World}{lo g n:Nat}{us:Array Value}{ls ms:Nat→List Int}(h:q6 w lo g n us ls)(e:∀i,i<n→ls i=ms i):q6 w lo g n us ms :=
 ⟨h.box,h.size,h.low,fun i hi=>by rw[←e i hi];exact h.row i hi,h.apart⟩
theorem q6.cell {w:World}{lo g n:Nat}{us:Array Value}{ls:Nat→List Int}(h:q6 w lo g n us ls){i:Nat}(hi:i<n):w.cell? (Z g i)=some (us.getD i (.slice none 0 0)):=by
 have:i<us.size:=by have:=h.size;omega
 simp[World.cell?,h.box,this]
theorem aii (n i:Nat):(madeCells #[.slice none 0 0] n).getD i (.slice none 0 0)=.slice none 0 0:=by
 have:madeCells #[Value.slice none 0 0] n=(List.replicate n (Value.slice none 0 0)).toArray:=by
  apply Array.toList_inj.1
  rw[toList_madeCells_one]
 rw[this];by_cases h:i<n <;> simp[Array.getD,h]
theorem aij (n:Nat):(madeCells #[.slice none 0 0] n).size=n:=by
 rw[←Array.length_toList,toList_madeCells_one];simp
theorem aiu {w:World}{n g lo:Nat}(hg:w.heap.size=g)(hl:lo≤g):q6 (w.alloc (.cells (madeCells #[.slice none 0 0] n) 30)) lo g n (madeCells #[.slice none 0 0] n) (fun _=>[]):=by
 subst hg;refine⟨World.alloc_heap_new w _,by rw[aij];exact Nat.le_refl _,hl,fun i _=>?_,fun i j _ _ _=>?_⟩
 ·rw[aii];exact aio _ _
 ·rw[aii];intro k hk;simp[Value.ownBlock] at hk
theorem aiG (n:Nat)(hn:n≤1048576)(w:World) :
  (Instr.makeSlice 28 (vi (n:Int)) (vi (n:Int))).run Tryz.prog w=.ok (sq w.heap.size 0 n n) (w.alloc (.cells (madeCells #[.slice none 0 0] n) 30)):=by
 have h:=aeB (z:=.slice none 0 0) (size:=1) (bytes:=24) Tryz.underlying28 (by kernel_rfl) n (by omega) (by omega) w;rw[Nat.mul_one] at h;exact h
def KB (w:World)(lo:Nat)(v:Value)(D:List (List Int)):Prop := ∃g cap us,v=sq g 0 D.length cap∧q6 w lo g D.length us (fun i=>D.getD i [])
def ah9 (w:World)(D:List (List Int))(e:Ending)(w':World):Prop := ∃v,e=.returned v∧KB w' w.heap.size v D∧Below w.heap.size w w'
theorem ah5 {w:World}{g lo:Nat}(hg:w.heap.size=g)(hl:lo≤g):KB (w.alloc (.cells #[] 30)) lo (sq g 0 0 0) []:=by
 subst hg;exact⟨w.heap.size,0,#[],rfl,World.alloc_heap_new w _,Nat.le_refl _,hl,fun i hi=>absurd hi (by simp),fun i j hi=>absurd hi (by simp)⟩
theorem ah8 {w:World}{lo g n:Nat}{us:Array Value}{ls:Nat→List Int}(h:q6 w lo g n us ls):KB w lo (sq g 0 n n) ((List.range n).map ls):=by
 refine⟨g,n,us,by simp,?_⟩;rw[List.length_map,List.length_range];exact h.congr (fun i hi=>by simp[List.getD,hi])
def ah4 (w:World)(v:Value)(D:List (List Int)):Prop := ∃g cap,v=sq g 0 D.length cap∧D.length≤100∧∀i,i<D.length→∃u,w.cell? (Z g i)=some u∧jV w u (D.getD i [])
theorem ah4.keep {w w':World}{v:Value}{D:List (List Int)}(h:ah4 w v D)(hb:Below w.heap.size w w'):ah4 w' v D:=by
 obtain⟨g,gcap,rfl,hn,hc⟩:=h;refine⟨g,gcap,rfl,hn,fun i hi=>?_⟩;obtain⟨u,h1,h2⟩:=hc i hi;exact⟨u,Bel.keeps hb h1,h2.keep hb⟩
theorem KB.at {w:World}{lo:Nat}{v:Value}{D:List (List Int)}(h:KB w lo v D)(hn:D.length≤100):ah4 w v D:=by
 obtain⟨g,gcap,us,rfl,hr⟩:=h;exact⟨g,gcap,rfl,hn,fun i hi=>⟨_,hr.cell hi,(hr.row i hi).at⟩⟩
theorem KB.keep {w w':World}{lo:Nat}{v:Value}{D:List (List Int)}(h:KB w lo v D)(hb:Below w.heap.size w w'):KB w' lo v D:=by
 obtain⟨g,gcap,us,rfl,hr⟩:=h;exact⟨g,gcap,us,rfl,hr.keep hb⟩
def tot (D:List (List Int)):Nat:=(D.map List.length).sum
theorem tot_le {D:List (List Int)}{m:Nat}(h:∀l∈D,l.length≤m):tot D≤D.length*m:=by
 induction D with
 | nil=>simp[tot]
 | cons l D ih=>
  have h1:=h l (by simp);have h2:=ih (fun x hx=>h x (by simp[hx]));have e:tot (l::D)=l.length+tot D:=by simp[tot]
  rw[e,List.length_cons,Nat.succ_mul];omega
open Classical in
noncomputable def q7 (F:FnD):List (List Int):=if qg F then(List.range F.blocks.length).map (qz F) else []
open Classical in
noncomputable def x6 (F:FnD):List (List Int):=if qg F then(List.range F.blocks.length).map (yT F (qz F)) else []
theorem ah1 {F:FnD}(h:qg F):q7 F=(List.range F.blocks.length).map (qz F):=if_pos h
theorem ah2 {F:FnD}(h:¬qg F):q7 F = []:=if_neg h
theorem ah3 {F:FnD}(h:qg F):x6 F=(List.range F.blocks.length).map (yT F (qz F)):=if_pos h
theorem ah6 {F:FnD}(h:¬qg F):x6 F = []:=if_neg h
theorem aik {F:FnD}{f:Nat→List Int}(hf:∀b,(f b).length≤80)(D:List (List Int))(h:qg F→D=(List.range F.blocks.length).map f)(h0:¬qg F→D = []):D.length≤100∧tot D≤100000:=by
 by_cases hp:qg F
 ·rw[h hp];have hn:=hp.1.2.1;refine⟨by simp;omega,?_⟩;have:=tot_le (D:=(List.range F.blocks.length).map f) (m:=80) (fun l hl=>by obtain⟨b,_,rfl⟩:=List.mem_map.1 hl;exact hf b);simp only[List.length_map,List.length_range] at this;omega
 ·rw[h0 hp];exact⟨by simp,by simp[tot]⟩
theorem aiN (F:FnD)(b:Nat):(qz F b).length≤80:=xB (ahl F b) (fun z hz=>((Xb F b z).1 hz).2)
theorem ail (F:FnD):(q7 F).length≤100:=(aik (aiN F) _ ah1 ah2).1
theorem aix (F:FnD):(x6 F).length≤100:=(aik (fun b=>norm_len _) _ ah3 ah6).1
end Go.Proofs.YtkbhbekfniadhaaGreat
