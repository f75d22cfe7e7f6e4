/- Going from block to block, as mathematics: what was come to, and in which order it was left. Who comes first, as mathematics: ways that avoid a block, rounds over a table of sets, and what they end with. -/
import Derived.Test.YtfnilamkapabkaaGreatDoorKGraph
namespace Go.Proofs.YtfnilamkapabkaaGreatDoor
open Go.ChangeShapes Go.WideShapes Go.ChangeAt Go.RowKit Go.Shelf
set_option linter.unusedVariables false
abbrev Way := List Nat × List Int
def stepW (L:Nat→Way→Way)(st:Way)(s:Int):Way:=if s.toNat∈st.1 then st else L s.toNat st
def leave (S:Nat→List Int):Nat→Nat→Way→Way
 | 0,_,st=>st
 | f+1,b,st=>(((S b).foldl (stepW (leave S f)) (b :: st.1,st.2)).1,((S b).foldl (stepW (leave S f)) (b :: st.1,st.2)).2 ++ [(b:Int)])
def midW (S:Nat→List Int)(f b:Nat)(st:Way)(l:List Int):Way:=l.foldl (stepW (leave S f)) (b :: st.1,st.2)
theorem midW_snoc (S:Nat→List Int)(f b:Nat)(st:Way)(l:List Int)(s:Int):midW S f b st (l ++ [s])=stepW (leave S f) (midW S f b st l) s:=by simp[midW]
theorem leave_eq (S:Nat→List Int)(f b:Nat)(st:Way):leave S (f+1) b st=((midW S f b st (S b)).1,(midW S f b st (S b)).2 ++ [(b:Int)]):=rfl
theorem stepW_in {L:Nat→Way→Way}{st:Way}{s:Int}(h:s.toNat∈st.1):stepW L st s=st:=if_pos h
theorem stepW_out {L:Nat→Way→Way}{st:Way}{s:Int}(h:¬s.toNat∈st.1):stepW L st s=L s.toNat st:=if_neg h
def unseen (n:Nat)(seen:List Nat):Nat:=((List.range n).filter (fun x=>decide (x∉seen))).length
theorem filter_le {α:Type}(p q:α→Bool)(h:∀x,q x=true→p x=true):∀l:List α,(l.filter q).length≤(l.filter p).length
 | []=>Nat.le_refl _
 | x :: l=>by
  have ih:=filter_le p q h l
  cases hq:q x
  ·cases hp:p x
   ·simp[hq,hp];exact ih
   ·simp[hq,hp];omega
  ·have hp:=h x hq
   simp[hq,hp];exact ih
theorem filter_lt {α:Type}(p q:α→Bool)(h:∀x,q x=true→p x=true)(y:α)(hp:p y=true)(hq:q y=false):∀l:List α,y∈l→(l.filter q).length<(l.filter p).length
 | [],hy=>by simp at hy
 | x :: l,hy=>by
  by_cases e:y=x
  ·subst e
   have:=filter_le p q h l
   simp[hp,hq]
   omega
  ·have hy2:y∈l:=by simpa [e] using hy
   have ih:=filter_lt p q h y hp hq l hy2
   cases hq2:q x
   ·cases hp2:p x
    ·simp[hq2,hp2];exact ih
    ·simp[hq2,hp2];omega
   ·have hp2:=h x hq2
    simp[hq2,hp2];exact ih
theorem unseen_sub {n:Nat}{a b:List Nat}(h:∀x∈a,x∈b):unseen n b≤unseen n a:=filter_le _ _ (fun x hx=>by simp at hx ⊢;exact fun hm=>hx (h x hm)) _
theorem unseen_cons {n:Nat}{a:List Nat}{b:Nat}(hb:b<n)(hn:b∉a):unseen n (b :: a)<unseen n a :=
 filter_lt _ _ (fun x hx=>by simp at hx ⊢;exact hx.2) b (by simpa using hn) (by simp) _ (by simpa using hb)
theorem unseen_nil (n:Nat):unseen n []=n:=by
 unfold unseen
 rw[List.filter_eq_self.2 (fun x _=>by simp)]
 simp
theorem unseen_pos {n:Nat}{a:List Nat}{b:Nat}(hb:b<n)(hn:b∉a):0<unseen n a:=Nat.lt_of_le_of_lt (Nat.zero_le _) (unseen_cons hb hn)
theorem leave_sub (S:Nat→List Int):∀(f b:Nat) (st:Way),∀x∈st.1,x∈(leave S f b st).1
 | 0,_,_,x,hx=>hx
 | f+1,b,st,x,hx=>by
  have hf:∀(l:List Int) (s0:Way),(∀x∈st.1,x∈s0.1)→∀x∈st.1,x∈(l.foldl (stepW (leave S f)) s0).1:=by
   intro l
   induction l with
   | nil=>exact fun s0 h=>h
   | cons y l ih=>
    intro s0 h
    refine ih _ (fun z hz=>?_)
    unfold stepW
    split
    ·exact h z hz
    ·exact leave_sub S f _ _ z (h z hz)
  exact hf (S b) _ (fun z hz=>List.mem_cons_of_mem _ hz) x hx
theorem mid_sub (S:Nat→List Int)(f b:Nat)(st:Way)(l:List Int):∀x∈b :: st.1,x∈(midW S f b st l).1:=by
 have hf:∀(l:List Int) (s0:Way),(∀x∈b :: st.1,x∈s0.1)→∀x∈b :: st.1,x∈(l.foldl (stepW (leave S f)) s0).1:=by
  intro l
  induction l with
  | nil=>exact fun s0 h=>h
  | cons y l ih=>
   intro s0 h
   refine ih _ (fun z hz=>?_)
   unfold stepW
   split
   ·exact h z hz
   ·exact leave_sub S f _ _ z (h z hz)
 exact hf l _ (fun z hz=>hz)
theorem mid_unseen {S:Nat→List Int}{n f b:Nat}{st:Way}(hb:b<n)(hn:b∉st.1)(h:unseen n st.1≤f+1)(l:List Int):unseen n (midW S f b st l).1≤f:=by
 have h1:=unseen_sub (n:=n) (mid_sub S f b st l)
 have h2:=unseen_cons hb hn
 omega
def WayIn (n:Nat)(st:Way):Prop:=(∀x∈st.1,x<n)∧∀x∈st.2,0≤x∧x<n
theorem leave_len {S:Nat→List Int}{n:Nat}(hS:∀j,∀s∈S j,0≤s∧s<(n:Int)):∀(f b:Nat) (st:Way) (M:Nat),b<n→b∉st.1→st.2.length+unseen n st.1≤M→WayIn n st →
  (leave S f b st).2.length+unseen n (leave S f b st).1≤M∧WayIn n (leave S f b st)
 | 0,_,st,M,_,_,h,hw=>⟨h,hw⟩
 | f+1,b,st,M,hb,hn,h,hw=>by
  have h2:=unseen_cons hb hn
  have hf:∀(l:List Int) (s0:Way),(∀s∈l,0≤s∧s<(n:Int))→s0.2.length+unseen n s0.1≤M-1→WayIn n s0→(l.foldl (stepW (leave S f)) s0).2.length+unseen n (l.foldl (stepW (leave S f)) s0).1≤M-1∧WayIn n (l.foldl (stepW (leave S f)) s0):=by
   intro l
   induction l with
   | nil=>exact fun s0 _ h hw=>⟨h,hw⟩
   | cons y l ih=>
    intro s0 hl h hw
    have hy:=hl y (by simp)
    have hgo:(stepW (leave S f) s0 y).2.length+unseen n (stepW (leave S f) s0 y).1≤M-1∧WayIn n (stepW (leave S f) s0 y):=by
     by_cases hin:y.toNat∈s0.1
     ·rw[stepW_in hin];exact⟨h,hw⟩
     ·rw[stepW_out hin];exact leave_len hS f _ _ _ (by omega) hin h hw
    exact ih _ (fun s hs=>hl s (by simp[hs])) hgo.1 hgo.2
  have h3:=hf (S b) (b :: st.1,st.2) (hS b) (by show st.2.length+unseen n (b :: st.1)≤M-1;omega) ⟨fun x hx=>by
   rcases List.mem_cons.1 hx with rfl | hx
   ·exact hb
   ·exact hw.1 x hx,hw.2⟩
  rw[leave_eq]
  refine⟨?_,h3.2.1,fun x hx=>?_⟩
  ·have:=h3.1
   simp[midW]
   omega
  ·rcases List.mem_append.1 hx with hx | hx
   ·exact h3.2.2 x hx
   ·simp at hx
    omega
theorem mid_len {S:Nat→List Int}{n:Nat}(hS:∀j,∀s∈S j,0≤s∧s<(n:Int)){f b:Nat}{st:Way}{M:Nat}(hb:b<n)(hn:b∉st.1)(h:st.2.length+unseen n st.1≤M)(hw:WayIn n st):∀(l:List Int),(∀s∈l,0≤s∧s<(n:Int)) →
  (midW S f b st l).2.length+unseen n (midW S f b st l).1+1≤M∧WayIn n (midW S f b st l):=by
 have h2:=unseen_cons hb hn
 have hf:∀(l:List Int) (s0:Way),(∀s∈l,0≤s∧s<(n:Int))→s0.2.length+unseen n s0.1≤M-1→WayIn n s0→(l.foldl (stepW (leave S f)) s0).2.length+unseen n (l.foldl (stepW (leave S f)) s0).1≤M-1∧WayIn n (l.foldl (stepW (leave S f)) s0):=by
  intro l
  induction l with
  | nil=>exact fun s0 _ h hw=>⟨h,hw⟩
  | cons y l ih=>
   intro s0 hl h hw
   have hy:=hl y (by simp)
   have hgo:(stepW (leave S f) s0 y).2.length+unseen n (stepW (leave S f) s0 y).1≤M-1∧WayIn n (stepW (leave S f) s0 y):=by
    by_cases hin:y.toNat∈s0.1
    ·rw[stepW_in hin];exact⟨h,hw⟩
    ·rw[stepW_out hin];exact leave_len hS f _ _ _ (by omega) hin h hw
   exact ih _ (fun s hs=>hl s (by simp[hs])) hgo.1 hgo.2
 intro l hl
 have h3:=hf l (b :: st.1,st.2) hl (by show st.2.length+unseen n (b :: st.1)≤M-1;omega) ⟨fun x hx=>by
  rcases List.mem_cons.1 hx with rfl | hx
  ·exact hb
  ·exact hw.1 x hx,hw.2⟩
 refine⟨?_,h3.2⟩
 have:=h3.1
 unfold midW
 omega
def wayOf (F:FnD):Way:=leave (succsN F) F.blocks.length 0 ([],[])
theorem wayOf_len {F:FnD}(h:FnShape F):(wayOf F).2.length≤F.blocks.length∧WayIn F.blocks.length (wayOf F):=by
 have h1:=h.1
 have:=leave_len (S:=succsN F) (n:=F.blocks.length) (succs_in h) F.blocks.length 0 ([],[]) F.blocks.length (by omega) (by simp) (by simp[unseen_nil]) ⟨by simp,by simp⟩
 exact⟨by have:=this.1;unfold wayOf;omega,this.2⟩
open Classical in
noncomputable def orderOf (F:FnD):List Int:=if FnShape F then(wayOf F).2.reverse else []
theorem orderOf_yes {F:FnD}(h:FnShape F):orderOf F=(wayOf F).2.reverse:=if_pos h
theorem orderOf_no {F:FnD}(h:¬FnShape F):orderOf F = []:=if_neg h
theorem leave_same (S:Nat→List Int):∀(f b:Nat) (st:Way) (E:List Nat),(∀x:Nat,x∈st.1↔x∈E∨(x:Int)∈st.2)→∀x:Nat,x∈(leave S f b st).1↔x∈E∨(x:Int)∈(leave S f b st).2
 | 0,_,_,_,h=>h
 | f+1,b,st,E,h=>by
  have hf:∀(l:List Int) (s0:Way),(∀x:Nat,x∈s0.1↔x∈b :: E∨(x:Int)∈s0.2)→∀x:Nat,x∈(l.foldl (stepW (leave S f)) s0).1↔x∈b :: E∨(x:Int)∈(l.foldl (stepW (leave S f)) s0).2:=by
   intro l
   induction l with
   | nil=>exact fun s0 h=>h
   | cons y l ih=>
    intro s0 h
    refine ih _ ?_
    unfold stepW
    split
    ·exact h
    ·exact leave_same S f _ _ _ h
  have h3:=hf (S b) (b :: st.1,st.2) (fun x=>by
   have:=h x
   simp only[List.mem_cons]
   constructor
   ·rintro(e | e)
    ·exact .inl (.inl e)
    ·rcases this.1 e with e | e
     ·exact .inl (.inr e)
     ·exact .inr e
   ·rintro((e | e) | e)
    ·exact .inl e
    ·exact .inr (this.2 (.inl e))
    ·exact .inr (this.2 (.inr e)))
  intro x
  have h4:=h3 x
  rw[leave_eq]
  show x∈(midW S f b st (S b)).1↔x∈E∨(x:Int)∈(midW S f b st (S b)).2 ++ [(b:Int)]
  have h5:x∈(midW S f b st (S b)).1↔x∈b :: E∨(x:Int)∈(midW S f b st (S b)).2:=h4
  rw[h5,List.mem_append,List.mem_cons]
  simp only[List.mem_singleton,Int.ofNat_inj]
  constructor
  ·rintro((e | e) | e)
   ·exact .inr (.inr e)
   ·exact .inl e
   ·exact .inr (.inl e)
  ·rintro(e | e | e)
   ·exact .inl (.inr e)
   ·exact .inr e
   ·exact .inl (.inl e)
theorem wayOf_same (F:FnD)(x:Nat):x∈(wayOf F).1↔(x:Int)∈(wayOf F).2:=by
 have:=leave_same (succsN F) F.blocks.length 0 ([],[]) [] (by simp) x
 simpa [wayOf] using this
inductive Rea (S:Nat→List Int)(A:Nat→Prop):Nat→Prop
 | base:¬A 0→Rea S A 0
 | step {x y:Nat}:Rea S A x→(y:Int)∈S x→¬A y→Rea S A y
theorem Rea.not {S:Nat→List Int}{A:Nat→Prop}{x:Nat}(h:Rea S A x):¬A x:=by cases h <;> assumption
theorem Rea.mono {S:Nat→List Int}{A B:Nat→Prop}(hAB:∀x,B x→A x){x:Nat}(h:Rea S A x):Rea S B x:=by
 induction h with
 | base h=>exact .base (fun e=>h (hAB _ e))
 | step _ hm hn ih=>exact .step ih hm (fun e=>hn (hAB _ e))
theorem leave_in {S:Nat→List Int}{A P:Nat→Prop}(hS:∀j,∀s∈S j,0≤s)(hP:∀x y:Nat,P x→(y:Int)∈S x→¬A y→P y):∀(f b:Nat) (st:Way),P b→(∀x,A x→x∈st.1)→(∀x∈st.1,A x∨P x)→∀x∈(leave S f b st).1,A x∨P x
 | 0,_,st,_,_,h=>h
 | f+1,b,st,hb,hA,h=>by
  have hf:∀(l:List Int) (s0:Way),(∀s∈l,s∈S b)→(∀x,A x→x∈s0.1)→(∀x∈s0.1,A x∨P x)→∀x∈(l.foldl (stepW (leave S f)) s0).1,A x∨P x:=by
   intro l
   induction l with
   | nil=>exact fun s0 _ _ h=>h
   | cons y l ih=>
    intro s0 hl hA h
    have hy:=hl y (by simp)
    refine ih _ (fun s hs=>hl s (by simp[hs])) ?_ ?_
    ·intro x hx
     unfold stepW
     split
     ·exact hA x hx
     ·exact leave_sub S f _ _ x (hA x hx)
    ·unfold stepW
     split
     ·exact h
     ·rename_i hn
      have h0:=hS b y hy
      have e:((y.toNat:Nat):Int)=y:=by omega
      exact leave_in hS hP f _ _ (hP b _ hb (by rw[e];exact hy) (fun c=>hn (hA _ c))) hA h
  exact hf (S b) (b :: st.1,st.2) (fun s hs=>hs) (fun x hx=>by simp[hA x hx]) (fun x hx=>by
   rcases List.mem_cons.1 hx with rfl | hx
   ·exact .inr hb
   ·exact h x hx)
theorem leave_closed {S:Nat→List Int}{n:Nat}(hS:∀j,∀s∈S j,0≤s∧s<(n:Int)):∀(f b:Nat) (st:Way),b<n→b∉st.1→unseen n st.1≤f →
  b∈(leave S f b st).1∧∀x∈(leave S f b st).1,x∈st.1∨∀s∈S x,s.toNat∈(leave S f b st).1
 | 0,b,st,hb,hn,hu=>by
  have:=unseen_pos hb hn
  omega
 | f+1,b,st,hb,hn,hu=>by
  have hf:∀(l:List Int) (s0:Way),(∀s∈l,s∈S b)→(∀x∈b :: st.1,x∈s0.1)→(∀x∈s0.1,x∈b :: st.1∨∀s∈S x,s.toNat∈s0.1) →
    (∀x∈s0.1,x∈(l.foldl (stepW (leave S f)) s0).1)∧(∀s∈l,s.toNat∈(l.foldl (stepW (leave S f)) s0).1)∧(∀x∈(l.foldl (stepW (leave S f)) s0).1,x∈b :: st.1∨∀s∈S x,s.toNat∈(l.foldl (stepW (leave S f)) s0).1):=by
   intro l
   induction l with
   | nil=>exact fun s0 _ _ h=>⟨fun x hx=>hx,by simp,h⟩
   | cons y l ih=>
    intro s0 hl hsub h
    have hy:=hS b y (hl y (by simp))
    have hone:(∀x∈s0.1,x∈(stepW (leave S f) s0 y).1)∧y.toNat∈(stepW (leave S f) s0 y).1∧(∀x∈(stepW (leave S f) s0 y).1,x∈b :: st.1∨∀s∈S x,s.toNat∈(stepW (leave S f) s0 y).1):=by
     by_cases hin:y.toNat∈s0.1
     ·rw[stepW_in hin]
      exact⟨fun x hx=>hx,hin,h⟩
     ·rw[stepW_out hin]
      have h1:=unseen_sub (n:=n) hsub
      have h2:=unseen_cons hb hn
      obtain⟨c1,c2⟩:=leave_closed hS f y.toNat s0 (by omega) hin (by omega)
      refine⟨leave_sub S f _ _,c1,fun x hx=>?_⟩
      rcases c2 x hx with hx | hx
      ·rcases h x hx with hx | hx
       ·exact .inl hx
       ·exact .inr (fun s hs=>leave_sub S f _ _ _ (hx s hs))
      ·exact .inr hx
    obtain⟨k1,k2,k3⟩:=ih (stepW (leave S f) s0 y) (fun s hs=>hl s (by simp[hs])) (fun x hx=>hone.1 x (hsub x hx)) hone.2.2
    refine⟨fun x hx=>k1 x (hone.1 x hx),fun s hs=>?_,k3⟩
    rcases List.mem_cons.1 hs with rfl | hs
    ·exact k1 _ hone.2.1
    ·exact k2 s hs
  obtain⟨k1,k2,k3⟩:=hf (S b) (b :: st.1,st.2) (fun s hs=>hs) (fun x hx=>hx) (fun x hx=>.inl hx)
  rw[leave_eq]
  refine⟨k1 b (by simp),fun x hx=>?_⟩
  rcases k3 x hx with hx | hx
  ·rcases List.mem_cons.1 hx with rfl | hx
   ·exact .inr k2
   ·exact .inl hx
  ·exact .inr hx
theorem leave_rea {S:Nat→List Int}{n:Nat}(hS:∀j,∀s∈S j,0≤s∧s<(n:Int))(h0:0<n)(g:List Nat)(hg:0∉g)(l:List Int){f:Nat}(hf:n≤f)(x:Nat):x∈(leave S f 0 (g,l)).1↔x∈g∨Rea S (·∈g) x:=by
 have hu:unseen n g≤f:=Nat.le_trans (unseen_sub (a := []) (by simp)) (by rw[unseen_nil];exact hf)
 obtain⟨c1,c2⟩:=leave_closed hS f 0 (g,l) h0 hg hu
 constructor
 ·intro hx
  exact leave_in (A:=(·∈g)) (P:=Rea S (·∈g)) (fun j s hs=>(hS j s hs).1) (fun x y h1 h2 h3=>.step h1 h2 h3) f 0 (g,l) (.base hg) (fun x hx=>hx) (fun x hx=>.inl hx) x hx
 ·rintro(hx | hx)
  ·exact leave_sub S f 0 (g,l) x hx
  ·induction hx with
   | base _=>exact c1
   | @step u y h1 h2 h3 ih=>
    rcases c2 u ih with hu | hu
    ·exact absurd hu h1.not
    ·have:=hu _ h2
     simpa using this
theorem way_rea {F:FnD}(h:FnShape F)(x:Nat):x∈(wayOf F).1↔Rea (succsN F) (fun _=>False) x:=by
 have:=leave_rea (succs_in h) (by have:=h.1;omega) [] (by simp) [] (Nat.le_refl _) x
 unfold wayOf
 rw[this]
 simp
theorem way_zero {F:FnD}(h:FnShape F):0∈(wayOf F).1:=(way_rea h 0).2 (.base (by simp))
theorem way_lt {F:FnD}(h:FnShape F){x:Nat}(hx:x∈(wayOf F).1):x<F.blocks.length:=(wayOf_len h).2.1 x hx
theorem way_step {F:FnD}(h:FnShape F){x y:Nat}(hx:x∈(wayOf F).1)(hy:(y:Int)∈succsN F x):y∈(wayOf F).1:=(way_rea h y).2 (.step ((way_rea h x).1 hx) hy (by simp))
def Dom (F:FnD)(a b:Nat):Prop:=a∈(wayOf F).1∧b∈(wayOf F).1∧¬Rea (succsN F) (· = a) b
open Classical in
noncomputable def domB (F:FnD)(a b:Nat):Bool:=decide (Dom F a b)
theorem domB_iff {F:FnD}{a b:Nat}:domB F a b=true↔Dom F a b:=by simp[domB]
theorem dom_refl {F:FnD}{b:Nat}(h:b∈(wayOf F).1):Dom F b b:=⟨h,h,fun e=>e.not rfl⟩
theorem dom_zero {F:FnD}(hS:FnShape F){b:Nat}(h:b∈(wayOf F).1):Dom F 0 b:=⟨way_zero hS,h,fun e=>by
 clear h
 induction e with
 | base h=>exact h rfl
 | step _ _ _ ih=>exact ih⟩
theorem dom_anti {F:FnD}(hS:FnShape F){a b:Nat}(h1:Dom F a b)(h2:Dom F b a):a=b:=by
 refine Classical.byContradiction (fun hne=>?_)
 have key:∀x,Rea (succsN F) (fun _=>False) x→Rea (succsN F) (fun y=>y=a∨y=b) x∨Rea (succsN F) (· = a) b∨Rea (succsN F) (· = b) a:=by
  intro x hx
  induction hx with
  | base _=>
   by_cases ea:(0:Nat)=a
   ·exact .inr (.inr (ea▸.base (fun e=>hne (by omega))))
   ·by_cases eb:(0:Nat)=b
    ·exact .inr (.inl (eb▸.base (fun e=>hne (by omega))))
    ·exact .inl (.base (by rintro(e | e) <;> contradiction))
  | @step u y r1 r2 r3 ih=>
   rcases ih with ih | ih
   ·by_cases ea:y=a
    ·subst ea
     exact .inr (.inr (.step (ih.mono (fun x hx=>.inr hx)) r2 hne))
    ·by_cases eb:y=b
     ·subst eb
      exact .inr (.inl (.step (ih.mono (fun x hx=>.inl hx)) r2 (fun e=>hne e.symm)))
     ·exact .inl (.step ih r2 (by rintro(e | e) <;> contradiction))
   ·exact .inr ih
 rcases key b ((way_rea hS b).1 h1.2.1) with h | h | h
 ·exact h.not (.inr rfl)
 ·exact h1.2.2 h
 ·exact h2.2.2 h
theorem dom_lt {F:FnD}(hS:FnShape F){a b:Nat}(h:Dom F a b):a<F.blocks.length∧b<F.blocks.length:=⟨way_lt hS h.1,way_lt hS h.2.1⟩
noncomputable def domsUp (F:FnD)(b k:Nat):List Int:=((List.range k).filter (fun a=>domB F a b)).map (fun(p:Nat)=>(p:Int))
noncomputable def domsN (F:FnD)(b:Nat):List Int:=domsUp F b F.blocks.length
open Classical in
noncomputable def domsOf (F:FnD):List (List Int):=if FnShape F then(List.range F.blocks.length).map (domsN F) else []
theorem domsOf_yes {F:FnD}(h:FnShape F):domsOf F=(List.range F.blocks.length).map (domsN F):=if_pos h
theorem domsOf_no {F:FnD}(h:¬FnShape F):domsOf F = []:=if_neg h
abbrev Tab := Nat→Nat→Bool
def rstep (T:Tab)(e:Nat × Nat):Tab:=fun x a=>if x=e.2 then T e.2 a && (T e.1 a || decide (a=e.2)) else T x a
def edgesOf (S:Nat→List Int)(b:Nat)(l:List Int):List (Nat × Nat):=l.map (fun s=>(b,s.toNat))
def edges (S:Nat→List Int)(o:List Int):List (Nat × Nat):=o.flatMap (fun b=>edgesOf S b.toNat (S b.toNat))
theorem edges_snoc (S:Nat→List Int)(o:List Int)(b:Int):edges S (o ++ [b])=edges S o ++ edgesOf S b.toNat (S b.toNat):=by simp[edges]
def rfold (l:List (Nat × Nat))(T:Tab):Tab:=l.foldl rstep T
theorem rfold_append (l m:List (Nat × Nat))(T:Tab):rfold (l ++ m) T=rfold m (rfold l T):=by simp[rfold]
theorem rstep_le {T:Tab}{e:Nat × Nat}{x a:Nat}(h:rstep T e x a=true):T x a=true:=by
 unfold rstep at h
 split at h
 ·rename_i hx
  subst hx
  simp at h
  exact h.1
 ·exact h
theorem rfold_le : ∀(l:List (Nat × Nat)) {T:Tab} {x a:Nat},rfold l T x a=true→T x a=true
 | [],_,_,_,h=>h
 | e :: l,T,x,a,h=>rstep_le (rfold_le l (T:=rstep T e) h)
def TEq (T U:Tab):Prop := ∀b a,b<16→a<16→T b a=U b a
theorem rfold_fix : ∀(l:List (Nat × Nat)) {T:Tab},TEq (rfold l T) T→∀e∈l,e.1<16→e.2<16→∀a,a<16→T e.2 a=true→T e.1 a=true∨a=e.2
 | [],_,_,e,he=>by simp at he
 | d :: l,T,h,e,he=>by
  have hT1:TEq (rstep T d) T:=by
   intro b a hb ha
   cases h1:T b a with
   | false=>
    cases h2:rstep T d b a with
    | false=>rfl
    | true=>rw[rstep_le h2] at h1;simp at h1
   | true=>
    have h3:rfold l (rstep T d) b a=true:=by have:=h b a hb ha;rw[h1] at this;exact this
    exact rfold_le l h3
  have h2:TEq (rfold l (rstep T d)) (rstep T d):=fun b a hb ha=>(h b a hb ha).trans (hT1 b a hb ha).symm
  intro h1' h2' a ha hTa
  rcases List.mem_cons.1 he with rfl | he
  ·have h4:=hT1 e.2 a h2' ha
   rw[hTa] at h4
   unfold rstep at h4
   simp at h4
   exact h4.2
  ·have:=rfold_fix l h2 e he h1' h2' a ha (by rw[hT1 _ _ h2' ha];exact hTa)
   rw[hT1 _ _ h1' ha] at this
   exact this
def cnt (T:Tab):Nat:=((List.range 256).filter (fun k=>T (k / 16) (k % 16))).length
theorem cnt_lt {T U:Tab}(hle:∀x a,U x a=true→T x a=true)(hne:¬TEq U T):cnt U<cnt T:=by
 have:∃b a,b<16∧a<16∧T b a=true∧U b a=false:=by
  refine Classical.byContradiction (fun hc=>hne (fun b a hb ha=>?_))
  cases h1:T b a with
  | false=>
   cases h2:U b a with
   | false=>rfl
   | true=>rw[hle _ _ h2] at h1;simp at h1
  | true=>
   cases h2:U b a with
   | true=>rfl
   | false=>exact absurd ⟨b,a,hb,ha,h1,h2⟩ hc
 obtain⟨b,a,hb,ha,h1,h2⟩:=this
 have e1:(16*b+a) / 16=b:=by omega
 have e2:(16*b+a) % 16=a:=by omega
 exact filter_lt _ _ (fun k hk=>hle _ _ hk) (16*b+a) (by simp only[e1,e2];exact h1) (by simp only[e1,e2];exact h2) _ (by simp;omega)
def start (W:List Nat):Tab:=fun b a=>if b=0 then decide (a=0) else decide (b∈W) && decide (a∈W)
structure TInv (F:FnD)(T:Tab):Prop where
 le:∀b a,T b a=true→start (wayOf F).1 b a=true
 dom:∀a b,Dom F a b→T b a=true
theorem TInv.start {F:FnD}(hS:FnShape F):TInv F (start (wayOf F).1):=by
 refine⟨fun b a h=>h,fun a b h=>?_⟩
 unfold Go.Proofs.YtfnilamkapabkaaGreatDoor.start
 by_cases hb:b=0
 ·subst hb
  have:=dom_anti hS h (dom_zero hS h.1)
  simp[this]
 ·simp[hb,h.1,h.2.1]
theorem TInv.step {F:FnD}(hS:FnShape F){T:Tab}(h:TInv F T){e:Nat × Nat}(h1:e.1∈(wayOf F).1)(h2:(e.2:Int)∈succsN F e.1):TInv F (rstep T e):=by
 refine⟨fun b a hh=>h.le b a (rstep_le hh),fun a b hd=>?_⟩
 unfold rstep
 split
 ·rename_i hb
  subst hb
  have h3:=h.dom a e.2 hd
  by_cases ha:a=e.2
  ·simp[ha]
   rw[←ha];rw[←ha] at h3;exact h3
  ·have h4:Dom F a e.1:=⟨hd.1,h1,fun c=>hd.2.2 (.step c h2 (fun e=>ha e.symm))⟩
   simp[h3,h.dom a e.1 h4]
 ·exact h.dom a b hd
theorem TInv.fold {F:FnD}(hS:FnShape F):∀(l:List (Nat × Nat)) {T:Tab},TInv F T→(∀e∈l,e.1∈(wayOf F).1∧(e.2:Int)∈succsN F e.1)→TInv F (rfold l T)
 | [],_,h,_=>h
 | e :: l,T,h,hl=>TInv.fold hS l (h.step hS (hl e (by simp)).1 (hl e (by simp)).2) (fun d hd=>hl d (by simp[hd]))
theorem edges_ok {F:FnD}(hS:FnShape F):∀e∈edges (succsN F) (wayOf F).2.reverse,e.1∈(wayOf F).1∧(e.2:Int)∈succsN F e.1:=by
 intro e he
 obtain⟨b,hb,hm⟩:=List.mem_flatMap.1 he
 obtain⟨s,hs,rfl⟩:=List.mem_map.1 hm
 have hb2:=(wayOf_len hS).2.2 b (by simpa using hb)
 have e1:((b.toNat:Nat):Int)=b:=by omega
 have hs2:=succs_in hS _ s hs
 have e2:((s.toNat:Nat):Int)=s:=by omega
 exact⟨(wayOf_same F _).2 (by rw[e1];simpa using hb),by show((s.toNat:Nat):Int)∈_;rw[e2];exact hs⟩
theorem edges_all {F:FnD}(hS:FnShape F){x y:Nat}(hx:x∈(wayOf F).1)(hy:(y:Int)∈succsN F x):(x,y)∈edges (succsN F) (wayOf F).2.reverse:=by
 refine List.mem_flatMap.2 ⟨(x:Int),by simpa using (wayOf_same F x).1 hx,List.mem_map.2 ⟨(y:Int),?_,?_⟩⟩
 ·simpa using hy
 ·simp
theorem TInv.ends {F:FnD}(hS:FnShape F){T:Tab}(h:TInv F T)(hf:TEq (rfold (edges (succsN F) (wayOf F).2.reverse) T) T){b a:Nat}(hb:b<16)(ha:a<16):T b a=domB F a b:=by
 have h16:F.blocks.length≤16:=by have:=hS.2.1;omega
 have key:∀x,Rea (succsN F) (· = a) x→T x a=false:=by
  intro x hx
  induction hx with
  | base h0=>
   cases hc:T 0 a with
   | false=>rfl
   | true=>
    have:=h.le 0 a hc
    simp[Go.Proofs.YtfnilamkapabkaaGreatDoor.start] at this
    exact absurd this.symm h0
  | @step u y h1 h2 h3 ih=>
   cases hc:T y a with
   | false=>rfl
   | true=>
    have hu:u∈(wayOf F).1:=(way_rea hS u).2 (h1.mono (by simp))
    have hy:=way_step hS hu h2
    rcases rfold_fix _ hf (u,y) (edges_all hS hu h2) (by have:=way_lt hS hu;show u<16;omega) (by have:=way_lt hS hy;show y<16;omega) a ha hc with e | e
    ·rw[show T u a=true from e] at ih
     simp at ih
    ·exact absurd e.symm h3
 cases hT:T b a with
 | true=>
  symm
  rw[domB_iff]
  have hs:=h.le b a hT
  unfold Go.Proofs.YtfnilamkapabkaaGreatDoor.start at hs
  have hm:a∈(wayOf F).1∧b∈(wayOf F).1:=by
   split at hs
   ·rename_i hb0
    have:a=0:=by simpa using hs
    subst hb0 this
    exact⟨way_zero hS,way_zero hS⟩
   ·simp at hs
    exact⟨hs.2,hs.1⟩
  refine⟨hm.1,hm.2,fun hr=>?_⟩
  rw[key b hr] at hT
  simp at hT
 | false=>
  symm
  cases hd:domB F a b with
  | false=>rfl
  | true=>rw[h.dom a b (domB_iff.1 hd)] at hT;simp at hT
end Go.Proofs.YtfnilamkapabkaaGreatDoor
