/- Going from block to block, as mathematics: what was come to, and in which order it was left. Who comes first, as mathematics: ways that avoid a block, rounds over a table of sets, and what they end with. What a program makes and where, by blocks, phis first, as mathematics. What is told of where a value is made is made there. The look, as mathematics: the first mistake of a program. Critical edges, as mathematics. Critical edges get blocks of their own: ar mathematics. Where a value is made: the model's DefAt tells what the document says, for every program. -/
import Derived.Test.YtkbhbekfniadhaaGreatKSh1
import Derived.Test.YtkbhbekfniadhaaGreatKIns
import Derived.Test.YtkbhbekfniadhaaGreatKSh8
set_option maxRecDepth 100000
set_option maxHeartbeats 8000000
namespace Go.Proofs.YtkbhbekfniadhaaGreat
open Go.ChangeShapes Go.WideShapes Go.ChangeAt Go.RowKit Go.Shelf
set_option linter.unusedVariables false
abbrev Way := List Nat × List Int
def kZ (L:Nat→Way→Way)(st:Way)(s:Int):Way:=if s.toNat∈st.1 then st else L s.toNat st
def leave (S:Nat→List Int):Nat→Nat→Way→Way
 | 0,_,st=>st
 | f+1,b,st=>(((S b).foldl (kZ (leave S f)) (b::st.1,st.2)).1,((S b).foldl (kZ (leave S f)) (b::st.1,st.2)).2 ++ [(b:Int)])
def zv (S:Nat→List Int)(f b:Nat)(st:Way)(l:List Int):Way:=l.foldl (kZ (leave S f)) (b::st.1,st.2)
theorem agD (S:Nat→List Int)(f b:Nat)(st:Way)(l:List Int)(s:Int):zv S f b st (l ++ [s])=kZ (leave S f) (zv S f b st l) s:=by simp[zv]
theorem Kz (S:Nat→List Int)(f b:Nat)(st:Way):leave S (f+1) b st=((zv S f b st (S b)).1,(zv S f b st (S b)).2 ++ [(b:Int)]):=rfl
theorem QC {L:Nat→Way→Way}{st:Way}{s:Int}(h:s.toNat∈st.1):kZ L st s=st:=if_pos h
theorem Ka {L:Nat→Way→Way}{st:Way}{s:Int}(h:¬s.toNat∈st.1):kZ L st s=L s.toNat st:=if_neg h
def kR (n:Nat)(seen:List Nat):Nat:=((List.range n).filter (fun x=>decide (x∉seen))).length
theorem filter_le {α:Type}(p q:α→Bool)(h:∀x,q x=true→p x=true):∀l:List α,(l.filter q).length≤(l.filter p).length
 | []=>Nat.le_refl _
 | x::l=>by
  have ih:=filter_le p q h l;cases hq:q x
  ·cases hp:p x
   ·simp[hq,hp];exact ih
   ·simp[hq,hp];omega
  ·have hp:=h x hq;simp[hq,hp];exact ih
theorem filter_lt {α:Type}(p q:α→Bool)(h:∀x,q x=true→p x=true)(y:α)(hp:p y=true)(hq:q y=false):∀l:List α,y∈l→(l.filter q).length<(l.filter p).length
 | [],hy=>by simp at hy
 | x::l,hy=>by
  by_cases e:y=x
  ·subst e;have:=filter_le p q h l;simp[hp,hq];omega
  ·have B:y∈l:=by simpa [e] using hy
   have ih:=filter_lt p q h y hp hq l B;cases t:q x
   ·cases r:p x
    ·simp[t,r];exact ih
    ·simp[t,r];omega
   ·have r:=h x t;simp[t,r];exact ih
theorem KE {n:Nat}{a b:List Nat}(h:∀x∈a,x∈b):kR n b≤kR n a:=filter_le _ _ (fun x hx=>by simp at hx ⊢;exact fun hm=>hx (h x hm)) _
theorem za {n:Nat}{a:List Nat}{b:Nat}(hb:b<n)(hn:b∉a):kR n (b::a)<kR n a :=
 filter_lt _ _ (fun x hx=>by simp at hx ⊢;exact hx.2) b (by simpa using hn) (by simp) _ (by simpa using hb)
theorem zX (n:Nat):kR n []=n:=by
 unfold kR;rw[List.filter_eq_self.2 (fun x _=>by simp)];simp
theorem aa9 {n:Nat}{a:List Nat}{b:Nat}(hb:b<n)(hn:b∉a):0<kR n a:=Nat.lt_of_le_of_lt (Nat.zero_le _) (za hb hn)
theorem zb (S:Nat→List Int):∀(f b:Nat) (st:Way),∀x∈st.1,x∈(leave S f b st).1
 | 0,_,_,x,hx=>hx
 | f+1,b,st,x,hx=>by
  have hf:∀(l:List Int) (s0:Way),(∀x∈st.1,x∈s0.1)→∀x∈st.1,x∈(l.foldl (kZ (leave S f)) s0).1:=by
   intro l;induction l with
   | nil=>exact fun s0 h=>h
   | cons y l ih=>
    intro s0 h;refine ih _ (fun z hz=>?_);unfold kZ;split
    ·exact h z hz
    ·exact zb S f _ _ z (h z hz)
  exact hf (S b) _ (fun z hz=>List.mem_cons_of_mem _ hz) x hx
theorem agE (S:Nat→List Int)(f b:Nat)(st:Way)(l:List Int):∀x∈b::st.1,x∈(zv S f b st l).1:=by
 have hf:∀(l:List Int) (s0:Way),(∀x∈b::st.1,x∈s0.1)→∀x∈b::st.1,x∈(l.foldl (kZ (leave S f)) s0).1:=by
  intro l;induction l with
  | nil=>exact fun s0 h=>h
  | cons y l ih=>
   intro s0 h;refine ih _ (fun z hz=>?_);unfold kZ;split
   ·exact h z hz
   ·exact zb S f _ _ z (h z hz)
 exact hf l _ (fun z hz=>hz)
theorem afi {S:Nat→List Int}{n f b:Nat}{st:Way}(hb:b<n)(hn:b∉st.1)(h:kR n st.1≤f+1)(l:List Int):kR n (zv S f b st l).1≤f:=by
 have h1:=KE (n:=n) (agE S f b st l);have h2:=za hb hn;omega
def KJ (n:Nat)(st:Way):Prop:=(∀x∈st.1,x<n)∧∀x∈st.2,0≤x∧x<n
theorem Y8 {S:Nat→List Int}{n:Nat}(hS:∀j,∀s∈S j,0≤s∧s<(n:Int)):∀(f b:Nat) (st:Way) (M:Nat),b<n→b∉st.1→st.2.length+kR n st.1≤M→KJ n st →
  (leave S f b st).2.length+kR n (leave S f b st).1≤M∧KJ n (leave S f b st)
 | 0,_,st,M,_,_,h,hw=>⟨h,hw⟩
 | f+1,b,st,M,hb,hn,h,hw=>by
  have h2:=za hb hn;have hf:∀(l:List Int) (s0:Way),(∀s∈l,0≤s∧s<(n:Int))→s0.2.length+kR n s0.1≤M-1→KJ n s0→(l.foldl (kZ (leave S f)) s0).2.length+kR n (l.foldl (kZ (leave S f)) s0).1≤M-1∧KJ n (l.foldl (kZ (leave S f)) s0):=by
   intro l;induction l with
   | nil=>exact fun s0 _ h hw=>⟨h,hw⟩
   | cons y l ih=>
    intro s0 hl h hw;have hy:=hl y (by simp);have t:(kZ (leave S f) s0 y).2.length+kR n (kZ (leave S f) s0 y).1≤M-1∧KJ n (kZ (leave S f) s0 y):=by
     by_cases r:y.toNat∈s0.1
     ·rw[QC r];exact⟨h,hw⟩
     ·rw[Ka r];exact Y8 hS f _ _ _ (by omega) r h hw
    exact ih _ (fun s hs=>hl s (by simp[hs])) t.1 t.2
  have h3:=hf (S b) (b::st.1,st.2) (hS b) (by show st.2.length+kR n (b::st.1)≤M-1;omega) ⟨fun x hx=>by
   rcases List.mem_cons.1 hx with rfl|hx
   ·exact hb
   ·exact hw.1 x hx,hw.2⟩
  rw[Kz];refine⟨?_,h3.2.1,fun x hx=>?_⟩
  ·have:=h3.1;simp[zv];omega
  ·rcases List.mem_append.1 hx with hx | hx
   ·exact h3.2.2 x hx
   ·simp at hx;omega
theorem mid_len {S:Nat→List Int}{n:Nat}(hS:∀j,∀s∈S j,0≤s∧s<(n:Int)){f b:Nat}{st:Way}{M:Nat}(hb:b<n)(hn:b∉st.1)(h:st.2.length+kR n st.1≤M)(hw:KJ n st):∀(l:List Int),(∀s∈l,0≤s∧s<(n:Int)) →
  (zv S f b st l).2.length+kR n (zv S f b st l).1+1≤M∧KJ n (zv S f b st l):=by
 have h2:=za hb hn;have hf:∀(l:List Int) (s0:Way),(∀s∈l,0≤s∧s<(n:Int))→s0.2.length+kR n s0.1≤M-1→KJ n s0→(l.foldl (kZ (leave S f)) s0).2.length+kR n (l.foldl (kZ (leave S f)) s0).1≤M-1∧KJ n (l.foldl (kZ (leave S f)) s0):=by
  intro l;induction l with
  | nil=>exact fun s0 _ h hw=>⟨h,hw⟩
  | cons y l ih=>
   intro s0 hl h hw;have hy:=hl y (by simp);have t:(kZ (leave S f) s0 y).2.length+kR n (kZ (leave S f) s0 y).1≤M-1∧KJ n (kZ (leave S f) s0 y):=by
    by_cases r:y.toNat∈s0.1
    ·rw[QC r];exact⟨h,hw⟩
    ·rw[Ka r];exact Y8 hS f _ _ _ (by omega) r h hw
   exact ih _ (fun s hs=>hl s (by simp[hs])) t.1 t.2
 intro l hl
 have h3:=hf l (b::st.1,st.2) hl (by show st.2.length+kR n (b::st.1)≤M-1;omega) ⟨fun x hx=>by
  rcases List.mem_cons.1 hx with rfl|hx
  ·exact hb
  ·exact hw.1 x hx,hw.2⟩
 refine⟨?_,h3.2⟩;have:=h3.1;unfold zv;omega
def qP (F:FnD):Way:=leave (succsN F) F.blocks.length 0 ([],[])
theorem Y9 {F:FnD}(h:jm F):(qP F).2.length≤F.blocks.length∧KJ F.blocks.length (qP F):=by
 have h1:=h.1;have:=Y8 (S:=succsN F) (n:=F.blocks.length) (JJ h) F.blocks.length 0 ([],[]) F.blocks.length (by omega) (by simp) (by simp[zX]) ⟨by simp,by simp⟩;exact⟨by have:=this.1;unfold qP;omega,this.2⟩
theorem aba (S:Nat→List Int):∀(f b:Nat) (st:Way) (E:List Nat),(∀x:Nat,x∈st.1↔x∈E∨(x:Int)∈st.2)→∀x:Nat,x∈(leave S f b st).1↔x∈E∨(x:Int)∈(leave S f b st).2
 | 0,_,_,_,h=>h
 | f+1,b,st,E,h=>by
  have hf:∀(l:List Int) (s0:Way),(∀x:Nat,x∈s0.1↔x∈b::E∨(x:Int)∈s0.2)→∀x:Nat,x∈(l.foldl (kZ (leave S f)) s0).1↔x∈b::E∨(x:Int)∈(l.foldl (kZ (leave S f)) s0).2:=by
   intro l;induction l with
   | nil=>exact fun s0 h=>h
   | cons y l ih=>
    intro s0 h;refine ih _ ?_;unfold kZ;split
    ·exact h
    ·exact aba S f _ _ _ h
  have h3:=hf (S b) (b::st.1,st.2) (fun x=>by
   have:=h x;simp only[List.mem_cons];constructor
   ·rintro(e | e)
    ·exact .inl (.inl e)
    ·rcases this.1 e with e | e
     ·exact .inl (.inr e)
     ·exact .inr e
   ·rintro((e | e) | e)
    ·exact .inl e
    ·exact .inr (this.2 (.inl e))
    ·exact .inr (this.2 (.inr e)))
  intro x;have h4:=h3 x;rw[Kz];show x∈(zv S f b st (S b)).1↔x∈E∨(x:Int)∈(zv S f b st (S b)).2 ++ [(b:Int)];have h5:x∈(zv S f b st (S b)).1↔x∈b::E∨(x:Int)∈(zv S f b st (S b)).2:=h4;rw[h5,List.mem_append,List.mem_cons];simp only[List.mem_singleton,Int.ofNat_inj];constructor
  ·rintro((e | e) | e)
   ·exact .inr (.inr e)
   ·exact .inl e
   ·exact .inr (.inl e)
  ·rintro(e | e | e)
   ·exact .inl (.inr e)
   ·exact .inr e
   ·exact .inl (.inl e)
theorem Xx (F:FnD)(x:Nat):x∈(qP F).1↔(x:Int)∈(qP F).2:=by
 have:=aba (succsN F) F.blocks.length 0 ([],[]) [] (by simp) x;simpa [qP] using this
inductive Rea (S:Nat→List Int)(A:Nat→Prop):Nat→Prop
 | base:¬A 0→Rea S A 0
 | step {x y:Nat}:Rea S A x→(y:Int)∈S x→¬A y→Rea S A y
theorem Rea.not {S:Nat→List Int}{A:Nat→Prop}{x:Nat}(h:Rea S A x):¬A x:=by cases h <;> assumption
theorem Rea.mono {S:Nat→List Int}{A B:Nat→Prop}(hAB:∀x,B x→A x){x:Nat}(h:Rea S A x):Rea S B x:=by
 induction h with
 | base h=>exact .base (fun e=>h (hAB _ e))
 | step _ hm hn ih=>exact .step ih hm (fun e=>hn (hAB _ e))
theorem aeG {S:Nat→List Int}{A P:Nat→Prop}(hS:∀j,∀s∈S j,0≤s)(hP:∀x y:Nat,P x→(y:Int)∈S x→¬A y→P y):∀(f b:Nat) (st:Way),P b→(∀x,A x→x∈st.1)→(∀x∈st.1,A x∨P x)→∀x∈(leave S f b st).1,A x∨P x
 | 0,_,st,_,_,h=>h
 | f+1,b,st,hb,hA,h=>by
  have hf:∀(l:List Int) (s0:Way),(∀s∈l,s∈S b)→(∀x,A x→x∈s0.1)→(∀x∈s0.1,A x∨P x)→∀x∈(l.foldl (kZ (leave S f)) s0).1,A x∨P x:=by
   intro l;induction l with
   | nil=>exact fun s0 _ _ h=>h
   | cons y l ih=>
    intro s0 hl hA h;have hy:=hl y (by simp);refine ih _ (fun s hs=>hl s (by simp[hs])) ?_ ?_
    ·intro x hx;unfold kZ;split
     ·exact hA x hx
     ·exact zb S f _ _ x (hA x hx)
    ·unfold kZ;split
     ·exact h
     ·rename_i hn
      have h0:=hS b y hy;have e:((y.toNat:Nat):Int)=y:=by omega
      exact aeG hS hP f _ _ (hP b _ hb (by rw[e];exact hy) (fun c=>hn (hA _ c))) hA h
  exact hf (S b) (b::st.1,st.2) (fun s hs=>hs) (fun x hx=>by simp[hA x hx]) (fun x hx=>by
   rcases List.mem_cons.1 hx with rfl|hx
   ·exact .inr hb
   ·exact h x hx)
theorem X9 {S:Nat→List Int}{n:Nat}(hS:∀j,∀s∈S j,0≤s∧s<(n:Int)):∀(f b:Nat) (st:Way),b<n→b∉st.1→kR n st.1≤f →
  b∈(leave S f b st).1∧∀x∈(leave S f b st).1,x∈st.1∨∀s∈S x,s.toNat∈(leave S f b st).1
 | 0,b,st,hb,hn,hu=>by
  have:=aa9 hb hn;omega
 | f+1,b,st,hb,hn,hu=>by
  have hf:∀(l:List Int) (s0:Way),(∀s∈l,s∈S b)→(∀x∈b::st.1,x∈s0.1)→(∀x∈s0.1,x∈b::st.1∨∀s∈S x,s.toNat∈s0.1) →
    (∀x∈s0.1,x∈(l.foldl (kZ (leave S f)) s0).1)∧(∀s∈l,s.toNat∈(l.foldl (kZ (leave S f)) s0).1)∧(∀x∈(l.foldl (kZ (leave S f)) s0).1,x∈b::st.1∨∀s∈S x,s.toNat∈(l.foldl (kZ (leave S f)) s0).1):=by
   intro l;induction l with
   | nil=>exact fun s0 _ _ h=>⟨fun x hx=>hx,by simp,h⟩
   | cons y l ih=>
    intro s0 hl t h;have hy:=hS b y (hl y (by simp));have r:(∀x∈s0.1,x∈(kZ (leave S f) s0 y).1)∧y.toNat∈(kZ (leave S f) s0 y).1∧(∀x∈(kZ (leave S f) s0 y).1,x∈b::st.1∨∀s∈S x,s.toNat∈(kZ (leave S f) s0 y).1):=by
     by_cases B:y.toNat∈s0.1
     ·rw[QC B];exact⟨fun x hx=>hx,B,h⟩
     ·rw[Ka B];have h1:=KE (n:=n) t;have h2:=za hb hn;obtain⟨c1,c2⟩:=X9 hS f y.toNat s0 (by omega) B (by omega);refine⟨zb S f _ _,c1,fun x hx=>?_⟩;rcases c2 x hx with hx | hx
      ·rcases h x hx with hx | hx
       ·exact .inl hx
       ·exact .inr (fun s hs=>zb S f _ _ _ (hx s hs))
      ·exact .inr hx
    obtain⟨k1,k2,k3⟩:=ih (kZ (leave S f) s0 y) (fun s hs=>hl s (by simp[hs])) (fun x hx=>r.1 x (t x hx)) r.2.2;refine⟨fun x hx=>k1 x (r.1 x hx),fun s hs=>?_,k3⟩;rcases List.mem_cons.1 hs with rfl|hs
    ·exact k1 _ r.2.1
    ·exact k2 s hs
  obtain⟨k1,k2,k3⟩:=hf (S b) (b::st.1,st.2) (fun s hs=>hs) (fun x hx=>hx) (fun x hx=>.inl hx);rw[Kz];refine⟨k1 b (by simp),fun x hx=>?_⟩;rcases k3 x hx with hx | hx
  ·rcases List.mem_cons.1 hx with rfl|hx
   ·exact .inr k2
   ·exact .inl hx
  ·exact .inr hx
theorem agF {S:Nat→List Int}{n:Nat}(hS:∀j,∀s∈S j,0≤s∧s<(n:Int))(h0:0<n)(g:List Nat)(hg:0∉g)(l:List Int){f:Nat}(hf:n≤f)(x:Nat):x∈(leave S f 0 (g,l)).1↔x∈g∨Rea S (·∈g) x:=by
 have hu:kR n g≤f:=Nat.le_trans (KE (a := []) (by simp)) (by rw[zX];exact hf);obtain⟨c1,c2⟩:=X9 hS f 0 (g,l) h0 hg hu;constructor
 ·intro hx;exact aeG (A:=(·∈g)) (P:=Rea S (·∈g)) (fun j s hs=>(hS j s hs).1) (fun x y h1 h2 h3=>.step h1 h2 h3) f 0 (g,l) (.base hg) (fun x hx=>hx) (fun x hx=>.inl hx) x hx
 ·rintro(hx | hx)
  ·exact zb S f 0 (g,l) x hx
  ·induction hx with
   | base _=>exact c1
   | @step u y h1 h2 h3 ih=>
    rcases c2 u ih with hu | hu
    ·exact absurd hu h1.not
    ·have:=hu _ h2;simpa using this
theorem way_lt {F:FnD}(h:jm F){x:Nat}(hx:x∈(qP F).1):x<F.blocks.length:=(Y9 h).2.1 x hx
def Dom (F:FnD)(a b:Nat):Prop:=a∈(qP F).1∧b∈(qP F).1∧¬Rea (succsN F) (· = a) b
open Classical in
noncomputable def domB (F:FnD)(a b:Nat):Bool:=decide (Dom F a b)
theorem domB_iff {F:FnD}{a b:Nat}:domB F a b=true↔Dom F a b:=by simp[domB]
noncomputable def xj (F:FnD)(b k:Nat):List Int:=((List.range k).filter (fun a=>domB F a b)).map (fun(p:Nat)=>(p:Int))
noncomputable def KL (F:FnD)(b:Nat):List Int:=xj F b F.blocks.length
theorem afj {F:FnD}{b k:Nat}(h:domB F k b=true):xj F b (k+1)=xj F b k ++ [(k:Int)]:=by simp[xj,List.range_succ,h]
theorem afk {F:FnD}{b k:Nat}(h:domB F k b=false):xj F b (k+1)=xj F b k:=by simp[xj,List.range_succ,h]
theorem afl (F:FnD)(b k:Nat):(xj F b k).length≤k:=by
 unfold xj;rw[List.length_map];exact Nat.le_trans (List.length_filter_le _ _) (by simp)
abbrev Tab := Nat→Nat→Bool
def start (W:List Nat):Tab:=fun b a=>if b=0 then decide (a=0) else decide (b∈W) && decide (a∈W)
abbrev Made := Int × Int × Int
def jW (b:Nat)(ps:List yy):List Made:=ps.map (fun p=>(p.d,(b:Int),-1))
theorem Jn {b:Nat}{ps:List yy}{k:Nat}{p:yy}(h:ps[k]?=some p):jW b (ps.take (k+1))=jW b (ps.take k) ++ [(p.d,(b:Int),-1)]:=by
 rw[List.take_add_one,h];simp[jW]
def insMakes (b:Nat)(l:List kS):Nat→List Made
 | 0=>[]
 | k+1=>insMakes b l k ++ (match l[k]? with | some x=>if kD x.op=true then [(x.d,(b:Int),(k:Int))] else [] | none=>[])
theorem Kb {b:Nat}{l:List kS}{k:Nat}{x:kS}(h:l[k]?=some x)(hm:kD x.op=true):insMakes b l (k+1)=insMakes b l k ++ [(x.d,(b:Int),(k:Int))]:=by simp[insMakes,h,hm]
theorem Za {b:Nat}{l:List kS}{k:Nat}{x:kS}(h:l[k]?=some x)(hm:kD x.op=false):insMakes b l (k+1)=insMakes b l k:=by simp[insMakes,h,hm]
def xK (b:Nat)(x:jc):List Made:=jW b x.phis ++ insMakes b x.list x.list.length
def makesUp (F:FnD):Nat→List Made
 | 0=>[]
 | k+1=>makesUp F k ++ (match F.blocks[k]? with | some x=>xK k x | none=>[])
theorem zw {F:FnD}{k:Nat}{x:jc}(h:F.blocks[k]?=some x):makesUp F (k+1)=makesUp F k ++ xK k x:=by simp[makesUp,h]
def qG (F:FnD):List Made:=makesUp F F.blocks.length
theorem acE (b:Nat)(l:List kS)(k:Nat)(j:Nat):insMakes b l k <+: insMakes b l (k+j):=by
 induction j with
 | zero=>exact List.prefix_refl _
 | succ j ih=>exact ih.trans (List.prefix_append _ _)
theorem Zb (F:FnD)(k j:Nat):makesUp F k <+: makesUp F (k+j):=by
 induction j with
 | zero=>exact List.prefix_refl _
 | succ j ih=>exact ih.trans (List.prefix_append _ _)
theorem acF {F:FnD}{b k:Nat}{x:jc}(h:F.blocks[b]?=some x):makesUp F b ++ jW b (x.phis.take k) <+: qG F:=by
 have r:b<F.blocks.length:=(List.getElem?_eq_some_iff.1 h).1;have h1:makesUp F (b+1) <+: qG F:=by
  have:=Zb F (b+1) (F.blocks.length-(b+1));rw[show b+1+(F.blocks.length-(b+1))=F.blocks.length by omega] at this;exact this
 refine List.IsPrefix.trans ?_ h1;rw[zw h];refine(List.prefix_append_right_inj _).2 ?_;unfold xK;refine List.IsPrefix.trans ?_ (List.prefix_append _ _);unfold jW;exact(List.take_prefix _ _).map _
theorem agG {F:FnD}{b k:Nat}{x:jc}(h:F.blocks[b]?=some x)(hk:k≤x.list.length):makesUp F b ++ jW b x.phis ++ insMakes b x.list k <+: qG F:=by
 have r:b<F.blocks.length:=(List.getElem?_eq_some_iff.1 h).1;have h1:makesUp F (b+1) <+: qG F:=by
  have:=Zb F (b+1) (F.blocks.length-(b+1));rw[show b+1+(F.blocks.length-(b+1))=F.blocks.length by omega] at this;exact this
 refine List.IsPrefix.trans ?_ h1;rw[zw h,List.append_assoc];refine(List.prefix_append_right_inj _).2 ?_;unfold xK;refine(List.prefix_append_right_inj _).2 ?_;have:=acE b x.list k (x.list.length-k);rw[show k+(x.list.length-k)=x.list.length by omega] at this;exact this
def k7 (v:Int)(l:List Made):Option Made:=l.find? (fun m=>decide (m.1=v))
theorem abb {v:Int}{l m:List Made}(h:k7 v l=none):k7 v (l ++ m)=k7 v m:=by
 unfold k7 at *;rw[List.find?_append,h]
 rfl
theorem afm {v:Int}{l m:List Made}{x:Made}(h:k7 v l=some x)(hp:l <+: m):k7 v m=some x:=by
 obtain⟨t,rfl⟩:=hp;unfold k7 at *;rw[List.find?_append,h]
 rfl
theorem afn {v:Int}{l:List Made}{x:Made}(h:k7 v l=none)(hx:x.1=v):k7 v (l ++ [x])=some x:=by
 rw[abb h];simp[k7,hx]
theorem Zc {v:Int}{l:List Made}{x:Made}(h:k7 v l=none)(hx:x.1≠v):k7 v (l ++ [x])=none:=by
 rw[abb h];simp[k7,hx]
def atOf : Option Made→Int × Int
 | some m=>m.2
 | none=>(-1,-2)
open Classical in
noncomputable def yp (F:FnD)(v:Int):Int × Int:=if jm F then atOf (k7 v (qG F)) else(-1,-2)
theorem Zd {F:FnD}{v:Int}(h:jm F):yp F v=atOf (k7 v (qG F)):=if_pos h
theorem Ze {F:FnD}{v:Int}{l:List Made}{x:Made}(hS:jm F)(h:k7 v l=none)(hx:x.1=v)(hp:l ++ [x] <+: qG F):yp F v=x.2:=by
 rw[Zd hS,afm (afn h hx) hp]
 rfl
theorem adG {F:FnD}{v:Int}(hS:jm F)(h:k7 v (qG F)=none):yp F v=(-1,-2):=by
 rw[Zd hS,h]
 rfl
theorem Ya {b:Nat}{l:List kS}{m:Made}:∀{k:Nat},m∈insMakes b l k→∃(j:Nat) (i:kS),l[j]?=some i∧kD i.op=true∧m=(i.d,(b:Int),(j:Int))
 | 0,h=>by cases h
 | k+1,h=>by
  unfold insMakes at h;rcases List.mem_append.1 h with h | h
  ·exact Ya h
  ·split at h
   ·rename_i x hx
    split at h
    ·rename_i hm
     simp at h;exact⟨k,x,hx,hm,h⟩
    ·cases h
   ·cases h
theorem Zf {F:FnD}{m:Made}:∀{k:Nat},m∈makesUp F k→∃(b:Nat) (x:jc),F.blocks[b]?=some x∧m∈xK b x
 | 0,h=>by cases h
 | k+1,h=>by
  unfold makesUp at h;rcases List.mem_append.1 h with h | h
  ·exact Zf h
  ·split at h
   ·rename_i x hx
    exact⟨k,x,hx,h⟩
   ·cases h
def JU (F:FnD):Prop := ∃(b:Nat) (x:jc) (i:Nat) (y:kS),F.blocks[b]?=some x∧x.list[i]?=some y∧y.op=25
def qB (F:FnD):Prop := ∀b,b<F.blocks.length→b∈(qP F).1
def Jo (F:FnD):Prop:=(∃x:jc,F.blocks[0]?=some x∧0<x.phis.length)∨0<(yf F 0).length
def Zg (F:FnD)(b:Nat)(p:yy):Prop:=p.arms.length=(yf F (b:Int)).length∧∀a∈p.arms,a.fr∈yf F (b:Int)
def Ke (F:FnD):Prop := ∀(b:Nat) (x:jc),F.blocks[b]?=some x→∀p∈x.phis,Zg F b p
def yR (F:FnD):Prop:=((qG F).map (fun m=>m.1)).Nodup
def xS (F:FnD)(v:Int)(b:Nat)(at_:Int):Prop:=if (yp F v).1=(b:Int) then(yp F v).2<at_ else 0≤(yp F v).1∧(yp F v).1∈KL F b
def Qe (F:FnD)(b:Nat):Int:=match F.blocks[b]? with | some x=>(x.list.length:Int) | none=>0
def adH (F:FnD)(b:Nat)(x:jc):Prop :=
 (∀(k:Nat) (y:kS),x.list[k]?=some y→∀v∈kK y.op y.a y.b,xS F v b (k:Int))∧(∀v∈kT x.term.k x.term.a,xS F v b (x.list.length:Int))∧∀p∈x.phis,∀a∈p.arms,xS F a.v a.fr.toNat (Qe F a.fr.toNat)
def QD (F:FnD):Prop := ∀(b:Nat) (x:jc),F.blocks[b]?=some x→adH F b x
open Classical in
noncomputable def kF (F:FnD):Int :=
 if ¬jm F∨JU F then 1 else if ¬qB F then 2 else if Jo F then 3 else if ¬Ke F then 4 else if ¬yR F then 5 else if ¬QD F then 6 else 0
def xo (v:Int)(l:List Made):Nat:=(l.filter (fun m=>decide (m.1=v))).length
theorem acG (v:Int)(l:List Made)(m:Made):xo v (l ++ [m])=xo v l+(if m.1=v then 1 else 0):=by
 unfold xo;rw[List.filter_append,List.length_append];by_cases h:m.1=v <;> simp[h]
theorem afo (v:Int)(l:List Made):xo v l≤l.length:=List.length_filter_le _ _
theorem acH {l:List Made}{N:Nat}(hN:∀m∈l,0≤m.1∧m.1<(N:Int)):((l.map (fun m=>m.1)).Nodup)↔∀v:Nat,v<N→xo (v:Int) l≤1:=by
 induction l with
 | nil=>simp[xo]
 | cons m l ih=>
  have r:∀m∈l,0≤m.1∧m.1<(N:Int):=fun x hx=>hN x (by simp[hx])
  have hm:=hN m (by simp);have e:∀v:Int,xo v (m::l)=xo v l+(if m.1=v then 1 else 0):=fun v=>by
   unfold xo;by_cases h:m.1=v <;> simp[h]
  have t:(m.1∈l.map (fun m=>m.1))↔0<xo m.1 l:=by
   unfold xo;rw[List.length_pos_iff_exists_mem];simp only[List.mem_map,List.mem_filter,decide_eq_true_eq]
  rw[List.map_cons,List.nodup_cons,ih r,t];constructor
  ·rintro⟨h1,h2⟩ v hv;rw[e];by_cases h:m.1=(v:Int)
   ·rw[if_pos h];rw[h] at h1;omega
   ·rw[if_neg h];have:=h2 v hv;omega
  ·intro h;refine⟨?_,fun v hv=>?_⟩
   ·have h1:=h m.1.toNat (by omega);rw[e,Int.toNat_of_nonneg hm.1,if_pos rfl] at h1;omega
   ·have h1:=h v hv;rw[e] at h1;omega
def Yb (F:FnD)(b:Nat):Nat:=match F.blocks[b]? with | some x=>x.phis.length | none=>0
theorem agH {F:FnD}{b:Nat}{x:jc}(h:F.blocks[b]?=some x):Yb F b=x.phis.length:=by simp[Yb,h]
def KR (F:FnD)(s:Int):Bool:=decide (1<(yf F s).length∨0<Yb F s.toNat)
theorem abc {F:FnD}{s:Int}(h:1<(yf F s).length∨0<Yb F s.toNat):KR F s=true:=decide_eq_true h
theorem agI {F:FnD}{s:Int}(h1:¬1<(yf F s).length)(h2:¬0<Yb F s.toNat):KR F s=false:=decide_eq_false (fun h=>h.elim h1 h2)
def qi (F:FnD)(a:Nat)(ss:List Int):List jy:=(ss.filter (KR F)).map (fun s=>⟨(a:Int),s⟩)
theorem Zh {F:FnD}{a:Nat}{ss:List Int}{s:Int}(h:KR F s=true):qi F a (ss ++ [s])=qi F a ss ++ [⟨(a:Int),s⟩]:=by simp[qi,h]
theorem afp {F:FnD}{a:Nat}{ss:List Int}{s:Int}(h:KR F s=false):qi F a (ss ++ [s])=qi F a ss:=by simp[qi,h]
theorem Zi (F:FnD)(a:Nat)(ss:List Int):(qi F a ss).length≤ss.length:=by
 unfold qi;rw[List.length_map];exact List.length_filter_le _ _
def yS (F:FnD)(a:Nat):List jy:=if 1<(succsN F a).length then qi F a (succsN F a) else []
theorem acI (F:FnD)(a:Nat):(yS F a).length≤2:=by
 unfold yS;split
 ·exact Nat.le_trans (Zi _ _ _) (zJ F a)
 ·simp
def critUp (F:FnD):Nat→List jy
 | 0=>[]
 | k+1=>critUp F k ++ yS F k
theorem Xy (F:FnD)(k:Nat):(critUp F k).length≤k*2:=by
 induction k with
 | zero=>simp[critUp]
 | succ k ih=>
  have:=acI F k;simp only[critUp,List.length_append];omega
open Classical in
noncomputable def JV (F:FnD):List jy:=if jm F then critUp F F.blocks.length else []
theorem abd {F:FnD}(h:jm F):JV F=critUp F F.blocks.length:=if_pos h
def zY (e:jy)(at0:Int)(b:Nat)(a:jy):jy:=if a.fr=e.fr∧(b:Int)=e.v then { a with fr:=at0 } else a
def Yy (e:jy)(at0:Int)(b:Nat)(p:yy):yy := { p with arms:=p.arms.map (zY e at0 b) }
def Xz (e:jy)(at0:Int)(b:Nat)(t:QY):QY := { t with t:=(if (b:Int)=e.fr∧t.t=e.v then at0 else t.t),e:=(if (b:Int)=e.fr∧t.e=e.v then at0 else t.e) }
def afq (e:jy)(at0:Int)(b:Nat)(x:jc):jc := { phis:=x.phis.map (Yy e at0 b),list:=x.list,term:=Xz e at0 b x.term }
def Jp (e:jy)(at0:Int)(bs:List jc):List jc:=bs.mapIdx (afq e at0)
def agl (e:jy):jc:=⟨[],[],⟨1,0,e.v,0⟩⟩
def oldUp (bs:List jc)(es:List jy):Nat→List jc
 | 0=>bs
 | k+1=>match es[k]? with
  | some e=>Jp e ((bs.length+k:Nat):Int) (oldUp bs es k)
  | none=>oldUp bs es k
def ko (bs:List jc)(es:List jy)(k:Nat):List jc:=oldUp bs es k ++ (es.take k).map agl
open Classical in
noncomputable def yq (F:FnD):Bool:=decide (kF F=0∧F.blocks.length+(JV F).length≤16)
noncomputable def JW (F:FnD):FnD:=if yq F=true then { F with blocks:=ko F.blocks (JV F) (JV F).length } else F
theorem Zj (e:jy)(at0:Int)(bs:List jc):(Jp e at0 bs).length=bs.length:=by simp[Jp]
theorem afs {e:jy}{at0:Int}{bs:List jc}{i:Nat}{x:jc}(h:bs[i]?=some x):(Jp e at0 bs)[i]?=some (afq e at0 i x):=by simp[Jp,h]
theorem QE (bs:List jc)(es:List jy):∀k,(oldUp bs es k).length=bs.length
 | 0=>rfl
 | k+1=>by
  unfold oldUp;split
  ·rw[Zj];exact QE bs es k
  ·exact QE bs es k
theorem aft {bs:List jc}{es:List jy}{k:Nat}{e:jy}(h:es[k]?=some e):oldUp bs es (k+1)=Jp e ((bs.length+k:Nat):Int) (oldUp bs es k):=by
 show(match es[k]? with | some e=>Jp e ((bs.length+k:Nat):Int) (oldUp bs es k) | none=>oldUp bs es k)=_;rw[h]
theorem Zk {bs:List jc}{es:List jy}{k:Nat}(hk:k≤es.length):(ko bs es k).length=bs.length+k:=by
 simp[ko,QE];omega
theorem acJ {bs:List jc}{es:List jy}{k:Nat}{e:jy}(h:es[k]?=some e):ko bs es (k+1)=Jp e ((bs.length+k:Nat):Int) (oldUp bs es k) ++ ((es.take k).map agl ++ [agl e]):=by
 unfold ko;rw[aft h,List.take_add_one,h,List.map_append]
 rfl
theorem adI {e:jy}{at0:Int}{b:Nat}(h1:(b:Int)≠e.fr)(h2:(b:Int)≠e.v)(x:jc):afq e at0 b x=x:=by
 have hp:∀p:yy,Yy e at0 b p=p:=fun p=>by
  unfold Yy;have:p.arms.map (zY e at0 b)=p.arms:=by
   rw[List.map_congr_left (g:=id) (fun a _=>by unfold zY;rw[if_neg (fun h=>h2 h.2)];rfl)];simp
  rw[this]
 unfold afq Xz;rw[if_neg (fun h=>h1 h.1),if_neg (fun h=>h1 h.1)];have:x.phis.map (Yy e at0 b)=x.phis:=by
  rw[List.map_congr_left (g:=id) (fun p _=>by rw[hp];rfl)];simp
 rw[this]
theorem adJ {e:jy}{at0:Int}{b:Nat}(h2:(b:Int)≠e.v)(p:yy):Yy e at0 b p=p:=by
 unfold Yy;have:p.arms.map (zY e at0 b)=p.arms:=by
  rw[List.map_congr_left (g:=id) (fun a _=>by unfold zY;rw[if_neg (fun h=>h2 h.2)];rfl)];simp
 rw[this]
theorem acK {e:jy}{at0:Int}{b:Nat}(h2:(b:Int)≠e.v)(ps:List yy):ps.map (Yy e at0 b)=ps:=by
 rw[List.map_congr_left (g:=id) (fun p _=>by rw[adJ h2];rfl)];simp
theorem adK {e:jy}{at0:Int}{b:Nat}(h1:(b:Int)≠e.fr)(t:QY):Xz e at0 b t=t:=by
 unfold Xz;rw[if_neg (fun h=>h1 h.1),if_neg (fun h=>h1 h.1)]
theorem lead_two {e:jy}{at0:Int}{bs:List jc}{f t:Nat}{x y:jc}(hf:e.fr=(f:Int))(ht:e.v=(t:Int))(hx:bs[f]?=some x)(hy:(bs.set f { x with term:=Xz e at0 f x.term })[t]?=some y):Jp e at0 bs=(bs.set f { x with term:=Xz e at0 f x.term }).set t { y with phis:=y.phis.map (Yy e at0 t) }:=by
 have h:f<bs.length:=(List.getElem?_eq_some_iff.1 hx).1;have r:t<bs.length:=by have:=(List.getElem?_eq_some_iff.1 hy).1;simpa using this
 apply List.ext_getElem?
 intro i;by_cases hi:i<bs.length
 ·obtain⟨z,hz⟩:∃z,bs[i]?=some z:=⟨bs[i],List.getElem?_eq_getElem hi⟩;rw[afs hz];by_cases e1:i=t
  ·subst e1;rw[List.getElem?_set_self (by simpa using hi)];by_cases e2:i=f
   ·subst e2;rw[hx] at hz;cases hz
    rw[List.getElem?_set_self hi] at hy;cases hy
    rfl
   ·rw[List.getElem?_set_ne (by omega),hz] at hy;cases hy
    unfold afq;rw[adK (by omega)]
  ·rw[List.getElem?_set_ne (by omega)];by_cases e2:i=f
   ·subst e2;rw[hx] at hz;cases hz
    rw[List.getElem?_set_self hi];unfold afq;rw[acK (by omega)]
   ·rw[List.getElem?_set_ne (by omega),hz,adI (by omega) (by omega)]
 ·rw[List.getElem?_eq_none (by rw[Zj];omega),List.getElem?_eq_none (by simp;omega)]
def xL (e:jy)(at0:Int)(b:Nat)(ps:List yy)(k j:Nat):List yy:=ps.mapIdx (fun i p=>if i<k then Yy e at0 b p else if i=k then { p with arms:=(p.arms.take j).map (zY e at0 b) ++ p.arms.drop j } else p)
theorem afu (e:jy)(at0:Int)(b:Nat)(ps:List yy)(k j:Nat):(xL e at0 b ps k j).length=ps.length:=by simp[xL]
theorem acL (e:jy)(at0:Int)(b:Nat)(ps:List yy):xL e at0 b ps 0 0=ps:=by
 apply List.ext_getElem?
 intro i;unfold xL;rw[List.getElem?_mapIdx];cases h:ps[i]? with
 | none=>rfl
 | some p=>
  by_cases e0:i=0
  ·simp[e0]
  ·simp[e0]
theorem QF {e:jy}{at0:Int}{b:Nat}{ps:List yy}{k j:Nat}{p:yy}(h:ps[k]?=some p):(xL e at0 b ps k j)[k]?=some { p with arms:=(p.arms.take j).map (zY e at0 b) ++ p.arms.drop j }:=by
 unfold xL;rw[List.getElem?_mapIdx,h];simp
theorem acM {e:jy}{at0:Int}{b:Nat}{ar:List jy}{j:Nat}{a:jy}(h:ar[j]?=some a):((ar.take j).map (zY e at0 b) ++ ar.drop j)[j]?=some a:=by
 have hj:=(List.getElem?_eq_some_iff.1 h).1;rw[List.getElem?_append_right (by simp;omega)];simp;rw[show j-min j ar.length=0 by omega,Nat.add_zero];exact h
theorem adL {e:jy}{at0:Int}{b:Nat}{ar:List jy}{j:Nat}{a:jy}(h:ar[j]?=some a):((ar.take j).map (zY e at0 b) ++ ar.drop j).set j (zY e at0 b a)=(ar.take (j+1)).map (zY e at0 b) ++ ar.drop (j+1):=by
 have hj:=(List.getElem?_eq_some_iff.1 h).1
 apply List.ext_getElem?
 intro i;by_cases e1:i=j
 ·subst e1;rw[List.getElem?_set_self (by simp;omega),List.getElem?_append_left (by simp;omega)];have ea:ar[i]=a:=(List.getElem?_eq_some_iff.1 h).2;simp[hj,ea]
 ·rw[List.getElem?_set_ne (by omega)];by_cases e2:i<j
  ·rw[List.getElem?_append_left (by simp;omega),List.getElem?_append_left (by simp;omega)];simp[e2,show i<j+1 by omega]
  ·rw[List.getElem?_append_right (by simp;omega),List.getElem?_append_right (by simp;omega)];simp
   congr 1
   omega
theorem Zl {e:jy}{at0:Int}{b:Nat}{ps:List yy}{k j:Nat}{p:yy}{a:jy}(h:ps[k]?=some p)(ha:p.arms[j]?=some a):(xL e at0 b ps k j).set k { p with arms:=((p.arms.take j).map (zY e at0 b) ++ p.arms.drop j).set j (zY e at0 b a) }=xL e at0 b ps k (j+1):=by
 have hk:=(List.getElem?_eq_some_iff.1 h).1;rw[adL ha]
 apply List.ext_getElem?
 intro i;by_cases e1:i=k
 ·subst e1;rw[List.getElem?_set_self (by rw[afu];exact hk),QF h]
 ·rw[List.getElem?_set_ne (by omega)];unfold xL;rw[List.getElem?_mapIdx,List.getElem?_mapIdx];simp[e1]
theorem afv {e:jy}{at0:Int}{b:Nat}{ps:List yy}{k:Nat}{p:yy}(h:ps[k]?=some p):xL e at0 b ps k p.arms.length=xL e at0 b ps (k+1) 0:=by
 apply List.ext_getElem?
 intro i;unfold xL;rw[List.getElem?_mapIdx,List.getElem?_mapIdx];cases hi:ps[i]? with
 | none=>rfl
 | some q=>
  simp only[Option.map_some]
  congr 1
  by_cases e1:i<k
  ·rw[if_pos e1,if_pos (by omega)]
  ·by_cases e2:i=k
   ·subst e2;rw[h] at hi;cases hi
    rw[if_neg e1,if_pos rfl,if_pos (by omega)];simp[Yy]
   ·rw[if_neg e1,if_neg e2,if_neg (by omega)];by_cases e3:i=k+1
    ·rw[if_pos e3];simp
    ·rw[if_neg e3]
theorem afw (e:jy)(at0:Int)(b:Nat)(ps:List yy):xL e at0 b ps ps.length 0=ps.map (Yy e at0 b):=by
 apply List.ext_getElem?
 intro i;unfold xL;rw[List.getElem?_mapIdx,List.getElem?_map];cases hi:ps[i]? with
 | none=>rfl
 | some q=>
  have:=(List.getElem?_eq_some_iff.1 hi).1;simp[this]
def agJ (w:World)(p:Int × Int)(e:Ending)(w':World):Prop:=e=.returned (.tuple #[vi p.1,vi p.2])∧Below w.heap.size w w'
theorem makes_ok {vals:Int}{i:kS}(h:qN vals i=true)(hm:kD i.op=true):0≤i.d:=by
 unfold qN jO at h;simp only[kD,decide_eq_true_eq] at hm;by_cases h1:1≤i.op∧i.op≤10
 ·rw[if_pos h1] at h;simp[jl] at h;omega
 ·rw[if_neg h1] at h;have hc:i.op=20∨i.op=21∨i.op=24∨i.op=25:=by omega
  rcases hc with hc | hc | hc | hc <;> simp[hc,jl] at h <;> omega
theorem ins_hit {op d x:Int}(h0:0≤x)(h:jX op d=x):kD op=true∧d=x:=by
 unfold jX at h;by_cases hm:kD op=true
 ·rw[if_pos hm] at h;exact⟨hm,h⟩
 ·rw[if_neg hm] at h;omega
theorem ins_miss {op d x:Int}(h:¬jX op d=x):kD op=false∨d≠x:=by
 unfold jX at h;cases hm:kD op
 ·exact .inl rfl
 ·rw[if_pos hm] at h;exact .inr h
theorem abe {v:Int}{b k:Nat}{L:List Made}{l:List kS}{i:kS}(hi:l[k]?=some i)(h:k7 v (L ++ insMakes b l k)=none)(hm:kD i.op=false∨i.d≠v):k7 v (L ++ insMakes b l (k+1))=none:=by
 cases e:kD i.op with
 | false=>rw[Za hi e];exact h
 | true=>
  rw[Kb hi e,←List.append_assoc];refine Zc h ?_;rcases hm with hm | hm
  ·rw[e] at hm;cases hm
  ·exact hm
theorem afx {v:Int}{b k:Nat}{L:List Made}{l:List yy}{p:yy}(hi:l[k]?=some p)(h:k7 v (L ++ jW b (l.take k))=none)(hm:p.d≠v):k7 v (L ++ jW b (l.take (k+1)))=none:=by
 rw[Jn hi,←List.append_assoc];exact Zc h hm
theorem adM (v:Value)(F:FnD)(x:Int)(w:World)(hF:kJ w v F)(hS:jm F) :
  Calls Tryz.prog 137 #[v,vi x] w fun e w'=>agJ w (yp F x) e w':=by
 have HF:Hid (kJ w v F):=hF;have HS:Hid (jm F):=hS;obtain⟨n,HN⟩:∃n,Hid (F.blocks.length=n):=⟨_,rfl⟩;have ak:n≤9223372036854775807:=by have h1:=hS.2.1;have h2:=HN.out;omega
 obtain⟨ba,bcap,vals,rfl⟩:∃ba bcap vals,v=.agg #[.slice ba n bcap,vi vals]:=by
  obtain⟨bv,rfl,a,cap,rfl,_,_⟩:=hF;exact⟨a,cap,F.values,by rw[HN.out]⟩
 clear hF hS;go_enter Tryz.func137,Tryz.ntmps137
 go_wp2;obtain⟨w2,hw2⟩:∃w2,w.alloc (.cells #[.slice ba n bcap,vi vals] 26)=w2:=⟨_,rfl⟩;obtain⟨X,hX⟩:∃X,w.heap.size=X:=⟨_,rfl⟩;have I:Below w.heap.size w w2:=by rw[←hw2];exact Bel.alloc _ _
 have f2:w2.cell? (Z X 0)=some (.slice ba n bcap):=by rw[←hw2,←hX];simp[go_sem]
 have B2:Hid (Below w.heap.size w w2):=I;have F2:Hid (kJ w2 (.agg #[.slice ba n bcap,vi vals]) F):=HF.out.later I;rw[hw2,hX];clear hw2 hX I HF;go_loopw [6] (fun i wr=>∃k:Nat,k≤n∧i=vi k∧k7 x (makesUp F k)=none∧Below w2.heap.size w2 wr) (fun i _=>n-(intOf i).toNat)
 case atStart=>exact⟨0,Nat.zero_le _,rfl,rfl,Below.refl _ _⟩
 case round=>
  obtain⟨wq,hwq⟩:∃x,x=wr:=⟨_,rfl⟩;subst hwq;obtain⟨k,hk,rfl,hfi,hb⟩:=hrel;have U:Hid (k7 x (makesUp F k)=none):=hfi;have HB:Hid (Below w2.heap.size w2 wq):=hb;have f3:=Bel.keeps hb f2;have F3:Hid (kJ wq (.agg #[.slice ba n bcap,vi vals]) F):=F2.out.later hb;clear hfi hb;by_cases am:(k:Int)<(n:Int)
  ·have V:k<F.blocks.length:=by have:=HN.out;omega
   obtain⟨y,HX⟩:∃y,Hid (F.blocks[k]?=some y):=⟨F.blocks[k],List.getElem?_eq_getElem V⟩;obtain⟨b,off,hba,pv,lv,c0,c1,-,-,-,-,hpv,hlv⟩:∃b off,ba=some (Z b off)∧qH 0 wq b (off+k*6) y:=by
    obtain⟨bv,hv,a,cap,e,h1,h2⟩:=F3.out;obtain⟨b,off,ha,_,hc⟩:=h2 (by omega);obtain rfl:bv=.slice ba n bcap:=by simp at hv;exact hv.1.symm
    simp at e;exact⟨b,off,e.1.trans ha,hc k y HX.out⟩
   subst hba;have ac:Hid (Kv (F.blocks.length:Int) F.values y):=HS.out.2.2.2.2 k y HX.out;obtain⟨x0,x1,xt⟩:=y;have af:Hid (jz 0 2 (yz 0) wq pv x0):=hpv;have ab:Hid (jz 0 5 jU wq lv x1):=hlv;obtain⟨pa,pcap,rfl,hpm,-⟩:=hpv;obtain⟨la,lcap,rfl,hlm,-⟩:=hlv;obtain⟨pn,HPN⟩:∃n,Hid (x0.length=n):=⟨_,rfl⟩;obtain⟨ln,HLN⟩:∃n,Hid (x1.length=n):=⟨_,rfl⟩;rw[HPN.out] at hpm c0;rw[HLN.out] at hlm c1;have F4:Hid (wq.cell? (Z X 0)=some (sq b off n bcap)):=f3;have C0:Hid (wq.cell? (Z b (off+k*6))=some (.slice pa pn pcap)):=c0;have C1:Hid (wq.cell? (Z b (off+k*6+1))=some (.slice la ln lcap)):=c1;clear V f2 F2;go_wp2;go_loopw [7] (fun i wr=>∃j:Nat,j≤pn∧i=vi j∧k7 x (makesUp F k ++ jW k (x0.take j))=none∧Below wq.heap.size wq wr) (fun i _=>pn-(intOf i).toNat)
   case atStart=>exact⟨0,Nat.zero_le _,rfl,by simpa [jW] using U.out,Below.refl _ _⟩
   case round=>
    obtain⟨wp,hwp⟩:∃x,x=wr:=⟨_,rfl⟩;subst hwp;obtain⟨j,hj,rfl,hfj,hbj⟩:=hrel;have h:Hid (k7 x (makesUp F k ++ jW k (x0.take j))=none):=hfj;have r:Hid (Below wq.heap.size wq wp):=hbj;replace f3:=Bel.keeps hbj f3;replace c0:=Bel.keeps hbj c0;replace c1:=Bel.keeps hbj c1;have P2:Hid (jz 0 2 (yz 0) wp (.slice pa x0.length pcap) x0):=ZD af.out (kM.jK hbj 0);clear hfj hbj;by_cases K:(j:Int)<(pn:Int)
    ·have t:j<x0.length:=by have:=HPN.out;omega
     obtain⟨p,HX2⟩:∃p,Hid (x0[j]?=some p):=⟨x0[j],List.getElem?_eq_getElem t⟩;obtain⟨b',off',hpa,p0,-⟩:∃b off,pa=some (Z b off)∧yz 0 wp b (off+j*2) p:=by
      obtain⟨a,cap,e,h1,h2⟩:=P2.out;obtain⟨b,off,ha,_,hc⟩:=h2 (by omega);simp at e;exact⟨b,off,e.1.trans ha,hc j p HX2.out⟩
     subst hpa;obtain⟨pd,arms⟩:=p;dsimp only at p0;clear t;by_cases G:pd=x
     ·have ai:(pd == x)=true:=by simp[G]
      have HR:Hid (yp F x=((k:Int),-1)):=Ze (x:=(pd,(k:Int),-1)) HS.out h.out G (by
       have h1:=acF (k:=j+1) HX.out;dsimp only at h1;rw[Jn HX2.out,←List.append_assoc] at h1
       exact h1)
      go_wp2
      go_ret2
      exact⟨by rw[HR.out];rfl,Bel.after B2.out (Bel.after HB.out r.out)⟩
     ·have ai:(pd == x)=false:=by simp[G]
      have ad:Hid (¬pd=x):=G;clear G;go_wp2;go_roundw
      case rel=>exact⟨j+1,by omega,by go_num,afx HX2.out h.out ad.out,r.out⟩
      case measure=>simp[intOf];omega
    ·have J:pn=j:=by omega
     subst J;have O:Hid (k7 x (makesUp F k ++ jW k x0 ++ insMakes k x1 0)=none):=by
      have h1:=h.out;rw[←HPN.out,List.take_length] at h1;exact(congrArg (k7 x) (List.append_nil _)).trans h1
     clear h P2;go_wp2;go_loopw [8] (fun i wr=>∃j:Nat,j≤ln∧i=vi j∧k7 x (makesUp F k ++ jW k x0 ++ insMakes k x1 j)=none∧Below wq.heap.size wq wr) (fun i _=>ln-(intOf i).toNat)
     case atStart=>exact⟨0,Nat.zero_le _,rfl,O.out,r.out⟩
     case round=>
      clear f3 c0 c1 r O;obtain⟨L,hwp⟩:∃x,x=wr:=⟨_,rfl⟩;subst hwp;obtain⟨j,hj,rfl,hfj,hbj⟩:=hrel;have h:Hid (k7 x (makesUp F k ++ jW k x0 ++ insMakes k x1 j)=none):=hfj;have r:Hid (Below wq.heap.size wq L):=hbj;have f3:=Bel.keeps hbj F4.out;have c0:=Bel.keeps hbj C0.out;have c1:=Bel.keeps hbj C1.out;have L2:Hid (jz 0 5 jU L (.slice la x1.length lcap) x1):=kN ab.out (kM.jK hbj 0);clear hfj hbj;by_cases K:(j:Int)<(ln:Int)
      ·have t:j<x1.length:=by have:=HLN.out;omega
       obtain⟨p,HX2⟩:∃p,Hid (x1[j]?=some p):=⟨x1[j],List.getElem?_eq_getElem t⟩;obtain⟨b',off',hpa,p0,p1,p2,p3,p4⟩:∃b off,la=some (Z b off)∧jU L b (off+j*5) p:=by
        obtain⟨a,cap,e,h1,h2⟩:=L2.out;obtain⟨b,off,ha,_,hc⟩:=h2 (by omega);simp at e;exact⟨b,off,e.1.trans ha,hc j p HX2.out⟩
       subst hpa;have ae:Hid (qN F.values p=true):=ac.out.2.2.2.1 j p HX2.out;obtain⟨H,id,ia,ib,ic⟩:=p;dsimp only at p0 p1 p2 p3 p4;have JL:j+1≤x1.length:=t;clear t;by_cases aj:0≤x
       ·obtain⟨md,HMD⟩:∃x,Hid (jX H id=x):=⟨_,rfl⟩;go_wp2_with fail
        refine(JB H id ia ib ic _).mono ?_;rw[HMD.out];rintro e w3 ⟨rfl,b3⟩;have M:Hid (Below wq.heap.size wq w3):=Bel.after r.out b3;clear b3;by_cases B:md=x
        ·have ah:(md == x)=true:=by simp[B]
         have hh:=ins_hit aj (HMD.out.trans B)
         have HR:Hid (yp F x=((k:Int),(j:Int))):=Ze (x:=(id,(k:Int),(j:Int))) HS.out h.out hh.2 (by
          have h1:=agG (k:=j+1) HX.out JL;dsimp only at h1;rw[Kb HX2.out hh.1,←List.append_assoc] at h1
          exact h1)
         clear hh;go_wp2
         go_ret2
         exact⟨by rw[HR.out];rfl,Bel.after B2.out (Bel.after HB.out M.out)⟩
        ·have ah:(md == x)=false:=by simp[B]
         have HM:Hid (¬jX H id=x):=fun e=>B (HMD.out.symm.trans e)
         clear B;go_wp2;go_roundw
         case rel=>exact⟨j+1,by omega,by go_num,abe HX2.out h.out (ins_miss HM.out),M.out⟩
         case measure=>simp[intOf];omega
       ·have HM:Hid (kD H=false∨id≠x):=by
         cases hm:kD H with
         | false=>exact .inl rfl
         | true=>
          have h1:=makes_ok ae.out hm;dsimp only at h1;exact .inr (by omega)
        go_wp2;go_roundw
        case rel=>exact⟨j+1,by omega,by go_num,abe HX2.out h.out HM.out,r.out⟩
        case measure=>simp[intOf];omega
      ·have J:ln=j:=by omega
       subst J;have aa:Hid (k7 x (makesUp F (k+1))=none):=by
        have h1:=zw HX.out;have h2:=h.out;rw[←HLN.out,List.append_assoc] at h2;rw[h1];exact h2
       go_wp2;go_roundw
       case rel=>exact⟨k+1,by omega,by go_num,aa.out,Bel.after HB.out r.out⟩
       case measure=>simp[intOf];omega
  ·have ag:n=k:=by omega
   subst ag;have HR:Hid (yp F x=(-1,-2)):=adG HS.out (by unfold qG;rw[HN.out];exact U.out);go_wp2
   go_ret2
   exact⟨by rw[HR.out];rfl,Bel.after B2.out HB.out⟩
end Go.Proofs.YtkbhbekfniadhaaGreat
