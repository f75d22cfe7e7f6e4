/- Lists of the call's own beside a program that is marked. Ascending lists of numbers as sets: where a number is put in, and taken out. Which values are needed ahead of each place of a block, as ascending lists, by those that are needed at its end. Which values are needed at the beginning of each block: the least that is closed, and how rounds come to it. -/
import Derived.Test.YtkbhbekfniadhaaGreatKMv
import Derived.Test.YtkbhbekfniadhaaGreatKTo
import Derived.Test.YtkbhbekfniadhaaGreatKSh1
namespace Go.Proofs.YtkbhbekfniadhaaGreat
open Go.ChangeShapes Go.WideShapes Go.ChangeAt Go.RowKit
set_option linter.unusedVariables false
def Asc (l:List Int):Prop:=l.Pairwise (· < ·)
theorem adZ : Asc []:=List.Pairwise.nil
theorem asc_le {l:List Int}(h:Asc l):l.Pairwise (·≤·):=h.imp (fun h=>Int.le_of_lt h)
theorem XR : ∀{l m:List Int},Asc l→Asc m→(∀x,x∈l↔x∈m)→l=m
 | [],[],_,_,_=>rfl
 | [],b::m,_,_,h=>by have:=(h b).2 (by simp);cases this
 | a::l,[],_,_,h=>by have:=(h a).1 (by simp);cases this
 | a::l,b::m,hl,hm,h=>by
  have r:=List.pairwise_cons.1 hl;have t:=List.pairwise_cons.1 hm;have e:a=b:=by
   have h1:=(h a).1 (by simp);have h2:=(h b).2 (by simp);rcases List.mem_cons.1 h1 with e | h1
   ·exact e
   ·rcases List.mem_cons.1 h2 with e | h2
    ·exact e.symm
    ·have:=r.1 b h2;have:=t.1 a h1;omega
  subst e;have hh:∀x,x∈l↔x∈m:=fun x=>by
   constructor
   ·intro hx;have:=r.1 x hx;rcases List.mem_cons.1 ((h x).1 (by simp[hx])) with e | B
    ·omega
    ·exact B
   ·intro hx;have:=t.1 x hx;rcases List.mem_cons.1 ((h x).2 (by simp[hx])) with e | B
    ·omega
    ·exact B
  rw[XR r.2 t.2 hh]
def xu (l:List Int)(v:Int):Nat:=l.countP (· < v)
theorem aeV (l:List Int)(v:Int):xu l v≤l.length:=List.countP_le_length
theorem Q7 (v:Int):∀{l:List Int},Asc l→(∀x∈l.take (xu l v),x<v)∧(∀x∈l.drop (xu l v),v≤x)
 | [],_=>by simp[xu]
 | a::l,h=>by
  have h':=List.pairwise_cons.1 h;obtain⟨i1,i2⟩:=Q7 v (l:=l) h'.2;by_cases ha:a<v
  ·have e:xu (a::l) v=xu l v+1:=by simp[xu,ha]
   rw[e];refine⟨fun x hx=>?_,fun x hx=>?_⟩
   ·rw[List.take_succ_cons] at hx;rcases List.mem_cons.1 hx with e | hx
    ·omega
    ·exact i1 x hx
   ·rw[List.drop_succ_cons] at hx;exact i2 x hx
  ·have e0:xu l v=0:=by
    unfold xu;rw[List.countP_eq_zero];intro x hx;have:=h'.1 x hx;simp;omega
   have e:xu (a::l) v=0:=by
    unfold xu at e0 ⊢;simp[ha,e0]
   rw[e];refine⟨fun x hx=>by simp at hx,fun x hx=>?_⟩;simp at hx;rcases hx with e | hx
   ·omega
   ·have:=h'.1 x hx;omega
theorem put_asc {l:List Int}{v:Int}(h:Asc l)(hv:¬v∈l):Asc (l.take (xu l v) ++ v::l.drop (xu l v)):=by
 obtain⟨h1,h2⟩:=Q7 v h;have hd:∀x∈l.drop (xu l v),v<x:=fun x hx=>by
  have:=h2 x hx;have r:x≠v:=fun e=>hv (e▸List.mem_of_mem_drop hx)
  omega
 unfold Asc;rw[List.pairwise_append];refine⟨h.sublist (List.take_sublist _ _),List.pairwise_cons.2 ⟨hd,h.sublist (List.drop_sublist _ _)⟩,fun a ha b hb=>?_⟩;have:=h1 a ha;rcases List.mem_cons.1 hb with e | hb
 ·omega
 ·have:=hd b hb;omega
theorem put_mem (l:List Int)(k:Nat)(v x:Int):x∈l.take k ++ v::l.drop k↔x∈l∨x=v:=by
 constructor
 ·intro h;rcases List.mem_append.1 h with h | h
  ·exact .inl (List.mem_of_mem_take h)
  ·rcases List.mem_cons.1 h with h | h
   ·exact .inr h
   ·exact .inl (List.mem_of_mem_drop h)
 ·rintro(h | h)
  ·rw[←List.take_append_drop k l] at h;rcases List.mem_append.1 h with h | h
   ·exact List.mem_append.2 (.inl h)
   ·exact List.mem_append.2 (.inr (List.mem_cons.2 (.inr h)))
  ·exact List.mem_append.2 (.inr (List.mem_cons.2 (.inl h)))
theorem cut_at {l:List Int}{v:Int}(h:Asc l)(hv:v∈l):xu l v<l.length∧l.drop (xu l v)=v::l.drop (xu l v+1):=by
 obtain⟨h1,h2⟩:=Q7 v h;have r:v∈l.drop (xu l v):=by
  rw[←List.take_append_drop (xu l v) l] at hv;rcases List.mem_append.1 hv with h | h
  ·have:=h1 v h;omega
  ·exact h
 have t:xu l v<l.length:=by
  have:=aeV l v;rcases Nat.lt_or_ge (xu l v) l.length with h | h
  ·exact h
  ·rw[List.drop_of_length_le h] at r;cases r
 refine⟨t,?_⟩;have e:=List.drop_eq_getElem_cons t;have hs:Asc (l.drop (xu l v)):=h.sublist (List.drop_sublist _ _);rw[e] at r hs h2 ⊢;have B:=List.pairwise_cons.1 hs;rcases List.mem_cons.1 r with e2 | hx
 ·rw[←e2]
 ·have g1:=B.1 v hx;have g2:=h2 l[xu l v] List.mem_cons_self;omega
theorem cut_out {l:List Int}{v:Int}(h:Asc l)(hv:v∈l):Asc (l.take (xu l v) ++ l.drop (xu l v+1))∧∀x,x∈l.take (xu l v) ++ l.drop (xu l v+1)↔x∈l∧x≠v:=by
 obtain⟨h1,h2⟩:=Q7 v h;obtain⟨t,e⟩:=cut_at h hv;have hs:Asc (l.drop (xu l v)):=h.sublist (List.drop_sublist _ _);rw[e] at hs;have r:=List.pairwise_cons.1 hs;refine⟨?_,fun x=>?_⟩
 ·unfold Asc;rw[List.pairwise_append];refine⟨h.sublist (List.take_sublist _ _),r.2,fun a ha b hb=>?_⟩;have:=h1 a ha;have:=r.1 b hb;omega
 ·constructor
  ·intro hx;rcases List.mem_append.1 hx with hx | hx
   ·have:=h1 x hx;exact⟨List.mem_of_mem_take hx,by omega⟩
   ·have:=r.1 x hx;exact⟨List.mem_of_mem_drop hx,by omega⟩
  ·rintro⟨hx,hne⟩;rw[←List.take_append_drop (xu l v) l,e] at hx;rcases List.mem_append.1 hx with hx | hx
   ·exact List.mem_append.2 (.inl hx)
   ·rcases List.mem_cons.1 hx with hx | hx
    ·exact absurd hx hne
    ·exact List.mem_append.2 (.inr hx)
def JZ (l:List Int):Prop := ∀x∈l,0≤x∧x<80
theorem ahh : ∀(l:List Int) (a:Int),Asc l→(∀x∈l,a≤x∧x<80)→a≤80→(l.length:Int)≤80-a
 | [],a,_,_,ha=>by simp;omega
 | x::l,a,h,hr,ha=>by
  have h':=List.pairwise_cons.1 h;have hx:=hr x (by simp);have:=ahh l (x+1) h'.2 (fun y hy=>⟨by have:=h'.1 y hy;omega,(hr y (by simp[hy])).2⟩) (by omega);simp;omega
theorem xB {l:List Int}(h:Asc l)(hr:JZ l):l.length≤80:=by
 have:=ahh l 0 h hr (by omega);omega
def qT (m:List Int):List Int:=((List.range 80).map (fun(j:Nat)=>(j:Int))).filter (fun x=>decide (x∈m))
theorem qM (m:List Int)(x:Int):x∈qT m↔x∈m∧0≤x∧x<80:=by
 unfold qT;rw[List.mem_filter];simp only[List.mem_map,List.mem_range,decide_eq_true_eq];constructor
 ·rintro⟨⟨j,hj,rfl⟩,h⟩;exact⟨h,by omega,by omega⟩
 ·rintro⟨h,h0,h1⟩;exact⟨⟨x.toNat,by omega,by omega⟩,h⟩
theorem yF (m:List Int):Asc (qT m):=by
 unfold qT Asc;refine List.Pairwise.filter _ ?_;rw[List.pairwise_map];exact List.pairwise_lt_range.imp (fun h=>by omega)
theorem Qp (m:List Int):JZ (qT m):=fun x hx=>((qM m x).1 hx).2
theorem norm_eq {l m:List Int}(ha:Asc l)(hi:JZ l)(h:∀x,x∈l↔x∈m):l=qT m:=XR ha (yF m) (fun x=>by rw[qM,←h x];exact⟨fun h=>⟨h,hi x h⟩,fun h=>h.1⟩)
theorem norm_len (m:List Int):(qT m).length≤80:=xB (yF m) (Qp m)
def endS (t:QY)(o:List Int):List Int:=qT (o ++ kT t.k t.a)
def Q8 (y:kS)(l:List Int):List Int:=qT (l.filter (fun x=>decide (x≠jX y.op y.d)) ++ kK y.op y.a y.b)
def atS (x:jc)(o:List Int)(j:Nat):List Int:=(x.list.drop j).foldr Q8 (endS x.term o)
theorem ahi (x:jc)(o:List Int):atS x o x.list.length=endS x.term o:=by simp[atS]
theorem abY {x:jc}{o:List Int}{j:Nat}{y:kS}(h:x.list[j]?=some y):atS x o j=Q8 y (atS x o (j+1)):=by
 obtain⟨hj,e⟩:=List.getElem?_eq_some_iff.1 h;unfold atS;rw[List.drop_eq_getElem_cons hj,e]
 rfl
theorem ZK (x:jc)(o:List Int)(j:Nat):Asc (atS x o j)∧JZ (atS x o j):=by
 by_cases hj:j<x.list.length
 ·rw[abY (List.getElem?_eq_getElem hj)];exact⟨yF _,Qp _⟩
 ·unfold atS;rw[List.drop_of_length_le (by omega)];exact⟨yF _,Qp _⟩
theorem ahj (x:jc)(o:List Int)(j:Nat):(atS x o j).length≤80:=xB (ZK x o j).1 (ZK x o j).2
structure Qq (x:jc):Prop where
 uses:∀y∈x.list,JZ (kK y.op y.a y.b)
 ends:JZ (kT x.term.k x.term.a)
def qZ (x:jc)(o:List Int)(k:Nat):List (Int × Nat):=(List.range k).map (fun i=>(((x.list.length-i:Nat):Int),(atS x o (x.list.length-i)).length))
theorem Q9 (x:jc)(o:List Int)(k:Nat):qZ x o (k+1)=qZ x o k ++ [(((x.list.length-k:Nat):Int),(atS x o (x.list.length-k)).length)]:=by simp[qZ,List.range_succ]
theorem ad0 : ∀{l m:List Int},Asc l→Asc m→(∀x∈l,x∈m)→List.Sublist l m
 | [],m,_,_,_=>List.nil_sublist m
 | a::l,[],_,_,h=>by have:=h a (by simp);cases this
 | a::l,b::m,hl,hm,h=>by
  have r:=List.pairwise_cons.1 hl;have t:=List.pairwise_cons.1 hm;by_cases e:a=b
  ·subst e;refine List.Sublist.cons_cons a (ad0 r.2 t.2 (fun x hx=>?_));have:=r.1 x hx;rcases List.mem_cons.1 (h x (by simp[hx])) with e | B
   ·omega
   ·exact B
  ·refine List.Sublist.cons b (ad0 hl t.2 (fun x hx=>?_));rcases List.mem_cons.1 (h x hx) with e2 | B
   ·subst e2;rcases List.mem_cons.1 hx with e3 | G
    ·exact absurd e3.symm e
    ·have h1:=r.1 x G;rcases List.mem_cons.1 (h a (by simp)) with e4 | h4
     ·omega
     ·have:=t.1 a h4;omega
   ·exact B
def yT (F:FnD)(ins:Nat→List Int)(b:Nat):List Int:=qT ((succsN F b).flatMap (fun s=>ins s.toNat))
def inF (F:FnD)(ins:Nat→List Int)(b:Nat):List Int:=match F.blocks[b]? with | some x=>atS x (yT F ins b) 0 | none=>[]
theorem aiM {F:FnD}{ins:Nat→List Int}{b:Nat}{x:jc}(h:F.blocks[b]?=some x):inF F ins b=atS x (yT F ins b) 0:=by simp[inF,h]
def ClosedL (F:FnD)(ins:Nat→List Int):Prop := ∀b,∀v∈inF F ins b,v∈ins b
def LiveP (F:FnD)(b:Nat)(v:Int):Prop := ∀ins,ClosedL F ins→v∈ins b
theorem ZL {l m:List Int}(h:∀v∈l,v∈m):∀v∈qT l,v∈qT m:=fun v hv=>by
 rw[qM] at hv ⊢;exact⟨h v hv.1,hv.2⟩
theorem ahk (y:kS){l m:List Int}(h:∀v∈l,v∈m):∀v∈Q8 y l,v∈Q8 y m:=ZL (fun v hv=>by
 rcases List.mem_append.1 hv with hv | hv
 ·rw[List.mem_filter] at hv;exact List.mem_append.2 (.inl (List.mem_filter.2 ⟨h v hv.1,hv.2⟩))
 ·exact List.mem_append.2 (.inr hv))
theorem atS_mono (x:jc){o o':List Int}(h:∀v∈o,v∈o')(j:Nat):∀v∈atS x o j,v∈atS x o' j:=by
 unfold atS;generalize x.list.drop j=l;induction l with
 | nil=>exact ZL (fun v hv=>by
   rcases List.mem_append.1 hv with hv | hv
   ·exact List.mem_append.2 (.inl (h v hv))
   ·exact List.mem_append.2 (.inr hv))
 | cons y l ih=>exact ahk y ih
theorem ZM (F:FnD){i j:Nat→List Int}(h:∀b,∀v∈i b,v∈j b)(b:Nat):∀v∈yT F i b,v∈yT F j b:=ZL (fun v hv=>by
 obtain⟨s,hs,hv⟩:=List.mem_flatMap.1 hv
 exact List.mem_flatMap.2 ⟨s,hs,h _ v hv⟩)
theorem Xa (F:FnD){i j:Nat→List Int}(h:∀b,∀v∈i b,v∈j b)(b:Nat):∀v∈inF F i b,v∈inF F j b:=by
 unfold inF;split
 ·exact atS_mono _ (ZM F h b) 0
 ·exact fun v hv=>hv
theorem Qa (F:FnD)(ins:Nat→List Int)(b:Nat):Asc (inF F ins b)∧JZ (inF F ins b):=by
 unfold inF;split
 ·exact ZK _ _ _
 ·exact⟨adZ,fun x hx=>by cases hx⟩
def xT (f:Nat→List Int)(b:Nat)(l:List Int):Nat→List Int:=fun i=>if i=b then l else f i
theorem Kn (f:Nat→List Int)(b:Nat)(l:List Int):xT f b l b=l:=if_pos rfl
theorem KG (f:Nat→List Int){b i:Nat}(l:List Int)(h:i≠b):xT f b l i=f i:=if_neg h
theorem Ko (f:Nat→List Int)(b:Nat):xT f b (f b)=f:=by
 funext i
 unfold xT;split
 ·rename_i h;rw[h]
 ·rfl
structure ad1 (F:FnD)(ins:Nat→List Int):Prop where
 asc:∀b,Asc (ins b)
 small:∀b,JZ (ins b)
 sound:∀b,∀v∈ins b,LiveP F b v
 grow:∀b,∀v∈ins b,v∈inF F ins b
theorem abl (F:FnD):ad1 F (fun _=>[]):=⟨fun _=>adZ,fun _ x hx=>(by cases hx),fun _ v hv=>(by cases hv),fun _ v hv=>(by cases hv)⟩
theorem ad1.step {F:FnD}{ins:Nat→List Int}(h:ad1 F ins)(b:Nat):ad1 F (xT ins b (inF F ins b)):=by
 have r:∀i,∀v∈ins i,v∈xT ins b (inF F ins b) i:=fun i v hv=>by
  unfold xT;split
  ·rename_i e;subst e;exact h.grow i v hv
  ·exact hv
 refine⟨fun i=>?_,fun i=>?_,fun i v hv=>?_,fun i v hv=>?_⟩
 ·unfold xT;split
  ·exact(Qa F ins b).1
  ·exact h.asc i
 ·unfold xT;split
  ·exact(Qa F ins b).2
  ·exact h.small i
 ·unfold xT at hv;split at hv
  ·rename_i e
   subst e;intro C hC;exact hC _ v (Xa F (fun b u hu=>h.sound b u hu C hC) i v hv)
  ·exact h.sound i v hv
 ·unfold xT at hv;split at hv
  ·rename_i e;subst e;exact Xa F r i v hv
  ·exact Xa F r i v (h.grow i v hv)
theorem ad1.done {F:FnD}{ins:Nat→List Int}(h:ad1 F ins)(hc:∀b,b<F.blocks.length→inF F ins b=ins b)(b:Nat)(v:Int):v∈ins b↔LiveP F b v:=by
 refine⟨h.sound b v,fun hl=>hl ins (fun i u hu=>?_)⟩;by_cases hi:i<F.blocks.length
 ·rw[hc i hi] at hu;exact hu
 ·unfold inF at hu;rw[List.getElem?_eq_none (by omega)] at hu;cases hu
open Classical in
noncomputable def qz (F:FnD)(b:Nat):List Int:=((List.range 80).map (fun(j:Nat)=>(j:Int))).filter (fun v=>decide (LiveP F b v))
theorem ahl (F:FnD)(b:Nat):Asc (qz F b):=by
 unfold qz Asc;refine List.Pairwise.filter _ ?_;rw[List.pairwise_map];exact List.pairwise_lt_range.imp (fun h=>by omega)
theorem Xb (F:FnD)(b:Nat)(v:Int):v∈qz F b↔LiveP F b v∧0≤v∧v<80:=by
 unfold qz;rw[List.mem_filter];simp only[List.mem_map,List.mem_range,decide_eq_true_eq];constructor
 ·rintro⟨⟨j,hj,rfl⟩,h⟩;exact⟨h,by omega,by omega⟩
 ·rintro⟨h,h0,h1⟩;exact⟨⟨v.toNat,by omega,by omega⟩,h⟩
theorem ad1.eq {F:FnD}{ins:Nat→List Int}(h:ad1 F ins)(hc:∀b,b<F.blocks.length→inF F ins b=ins b):ins=qz F:=by
 funext b
 refine XR (h.asc b) (ahl F b) (fun v=>?_);rw[Xb,←h.done hc b v];exact⟨fun hv=>⟨hv,h.small b v hv⟩,fun hv=>hv.1⟩
theorem ad1.longer {F:FnD}{ins:Nat→List Int}(h:ad1 F ins)(b:Nat):(ins b).length≤(inF F ins b).length∧((inF F ins b).length≤(ins b).length→inF F ins b=ins b):=by
 have hs:List.Sublist (ins b) (inF F ins b):=ad0 (h.asc b) (Qa F ins b).1 (h.grow b);exact⟨hs.length_le,fun hl=>(hs.eq_of_length_le hl).symm⟩
def JD (n:Nat)(ins:Nat→List Int):Nat:=((List.range n).map (fun b=>80-(ins b).length)).sum
theorem aeW {n:Nat}{ins:Nat→List Int}{b:Nat}(hb:b<n){l:List Int}(h1:(ins b).length≤l.length)(h2:l.length≤80):JD n (xT ins b l)+(l.length-(ins b).length)=JD n ins:=by
 unfold JD;induction n with
 | zero=>omega
 | succ n ih=>
  rw[List.range_succ,List.map_append,List.map_append,List.sum_append,List.sum_append];simp only[List.map_cons,List.map_nil,List.sum_cons,List.sum_nil,Nat.add_zero];by_cases e:b=n
  ·subst e;rw[Kn];have:(List.range b).map (fun i=>80-(xT ins b l i).length)=(List.range b).map (fun i=>80-(ins i).length):=by
    apply List.map_congr_left
    intro i hi;rw[KG ins l (by have:=List.mem_range.1 hi;omega)]
   rw[this];omega
  ·rw[KG ins l (fun h=>e h.symm)];have:=ih (by omega);omega
end Go.Proofs.YtkbhbekfniadhaaGreat
