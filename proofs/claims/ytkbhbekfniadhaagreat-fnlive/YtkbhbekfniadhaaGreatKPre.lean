/- Preds, of the program and of the model: the blocks that come ahead, ascending. The model's l3Left: from a block on, what was come to and what was left, as mathematics says. The model's Order: those that are reached, as they are left last. Rows of numbers: a list of lists that a call has made. The model's dominators: who is reached without a block, and the lists of those that dominate. The model's lists of those that dominate. -/
import Derived.Test.YtkbhbekfniadhaaGreatTk0
import Derived.Test.YtkbhbekfniadhaaGreatKSh8
import Derived.Test.YtkbhbekfniadhaaGreatKDfs
import Derived.Maps.AppendAt
import Derived.Deep.RegionWith
import Derived.BigRegion
import Derived.Test.YtkbhbekfniadhaaGreatKTo
import Derived.Laws.OwnMore
set_option maxRecDepth 100000
set_option maxHeartbeats 8000000
namespace Go.Proofs.YtkbhbekfniadhaaGreat
open Go.ChangeShapes Go.WideShapes Go.ChangeAt Go.RowKit Go.Shelf
set_option linter.unusedVariables false
theorem ja.zQ {w:World}{lo:Nat}{v:Value}{l:List Int}(h:ja w lo v l){B:Nat}{c:Array Value}{t:TypeId}{z:Nat × Nat}(hB:w.heap[B]?=some (.cells c t z))(ht:t≠3):some B≠v.ownBlock:=by
 rcases h.2 with ⟨rfl,_⟩ | ⟨g,cap,cur,rfl,_,hgb,_⟩
 ·simp[Value.ownBlock]
 ·intro e';obtain rfl:B=g:=by simpa [Value.ownBlock] using e'
  have:=hB.symm.trans hgb;simp at this;exact ht this.2.1
theorem ja.next {w:World}{lo:Nat}{v:Value}{l:List Int}{x:Int}(h:w.ownsRow lo 3 1 v (l.length+1) (l.map (fun x=>vi x) ++ [vi x])):ja w lo v (l ++ [x]):=by
 unfold ja;simpa using h
theorem ja.grown {W w1:World}{lo:Nat}{v:Value}{l:List Int}(h:ja W lo v l)(hlo:lo≤W.heap.size){o:Obj}(hg:(W.alloc o).grownBy w1 v.ownBlock):Below lo W w1:=by
 refine((Below.refl lo W).alloc hlo o).grown hg (by simp;omega) fun j ej=>?_
 rcases h.2 with ⟨rfl,_⟩ | ⟨g,cap,cur,rfl,hb,_,_⟩
 ·simp[Value.ownBlock] at ej
 ·obtain rfl:g=j:=by simpa [Value.ownBlock] using ej
  exact hb
theorem Z6 (v:Value)(l:List Int)(x:Int)(w:World)(hl:jV w v l) :
  Calls Tryz.prog 131 #[v,vi x] w fun e w'=>e=.returned (.bool (decide (x∈l)))∧w'=w:=by
 obtain⟨a,cap,rfl,hm,hc⟩:=hl;obtain⟨n,HN⟩:∃n,Hid (l.length=n):=⟨_,rfl⟩;rw[HN.out] at hm hc ⊢;have HC:Hid (0<n→∃b off,a=some (Z b off)∧∀i,i<n→w.cell? (Z b (off+i))=some (vi (l.getD i 0))):=hc;clear hc;go_enter Tryz.func131,Tryz.ntmps131
 go_wp2
 go_loop [5] (fun i=>∃k:Nat,k≤n∧i=vi k∧∀j,j<k→l.getD j 0≠x) (fun i=>n-(intOf i).toNat)
 case atStart=>exact⟨0,Nat.zero_le _,rfl,fun j hj=>absurd hj (by omega)⟩
 case round=>
  obtain⟨k,hk,rfl,hd⟩:=hrel;have HD:Hid (∀j,j<k→l.getD j 0≠x):=hd;clear hd;by_cases H:(k:Int)<(n:Int)
  ·obtain⟨b,off,rfl,hc1⟩:=HC.out (by omega);have q1:=hc1 k (by omega);clear hc1;obtain⟨y,HY⟩:∃y,Hid (l.getD k 0=y):=⟨_,rfl⟩;rw[HY.out] at q1;by_cases r:y=x
   ·subst r;go_wp2;go_ret;have t:k<l.length:=by have:=HN.out;omega
    have e:l[k]=y:=by have:=HY.out;simpa [List.getD,t] using this
    have h:y∈l:=by rw[←e];exact List.getElem_mem t
    rw[decide_eq_true h];exact⟨rfl,rfl⟩
   ·have hb:(y == x)=false:=by simp[r]
    go_wp2
    go_round
    case rel=>
     refine⟨k+1,by omega,by go_num,fun j hj=>?_⟩;by_cases B:j=k
     ·subst B;rw[HY.out];exact r
     ·exact HD.out j (by omega)
    case measure=>simp[intOf];omega
  ·have G:k=n:=by omega
   subst G;go_wp2;go_ret;have I:¬x∈l:=fun hx=>by
    obtain⟨j,hj,e⟩:=List.getElem_of_mem hx;exact HD.out j (by have:=HN.out;omega) (by simp[List.getD,hj,e])
   rw[decide_eq_false I];exact⟨rfl,rfl⟩
theorem zj (v:Value)(F:FnD)(b:Int)(w:World)(hF:kJ w v F)(h16:F.blocks.length≤16) :
  Calls Tryz.prog 118 #[v,vi b] w fun e w'=>JS w (yf F b) e w':=by
 have HF:Hid (kJ w v F):=hF;obtain⟨n,HN⟩:∃n,Hid (F.blocks.length=n):=⟨_,rfl⟩;obtain⟨vals,HV⟩:∃x,Hid (F.values=x):=⟨_,rfl⟩;obtain⟨ba,bcap,rfl⟩:=hF.out HN.out HV.out;clear hF;rw[HN.out] at h16;obtain⟨i0,hi,hz0,hz1,hz2⟩:=info_parts y7;have L:100≤maxLen:=by decide
 go_enter Tryz.func118,Tryz.ntmps118
 go_wp2_with fail
 go_loopw [5,6] (fun s i wr=>∃k:Nat,k≤n∧i=vi k∧ja wr w.heap.size s (yD F b k)∧Below w.heap.size w wr∧wr.heap[w.heap.size]?=some (.cells #[.slice ba n bcap,vi vals] 26 (0,0))) (fun _ i _=>n-(intOf i).toNat)
 case atStart=>
  refine⟨0,Nat.zero_le _,rfl,ke (by simp) (by omega),by repeat (first | exact Below.refl _ _ | apply Below.drew | refine Below.alloc ?_ (by simp <;> omega) _ | refine Below.setCell ?_ (by simp <;> omega) _),?_⟩;rw[Below.heap_alloc _ _ _ (by simp)];exact World.alloc_heap_new w _
 case round=>
  obtain⟨k,hk,rfl,ho,hB,hbx⟩:=hrel;have c0:wr.cell? (Z w.heap.size 0)=some (.slice ba n bcap):=by simp[World.cell?,hbx]
  have c1:wr.cell? (Z w.heap.size 1)=some (vi vals):=by simp[World.cell?,hbx]
  have HO:Hid (ja wr w.heap.size u5 (yD F b k)):=ho;have HB:Hid (Below w.heap.size w wr):=hB;have HX:Hid (wr.heap[w.heap.size]?=some (.cells #[.slice ba n bcap,vi vals] 26 (0,0))):=hbx;have M:=aac F b k;clear ho hB hbx;by_cases K:(k:Int)<(n:Int)
  ·go_wp2_with fail
   refine(zo _ F k _ (HF.out.later HB.out) (by rw[HN.out];omega)).mono ?_;rintro e w1 ⟨v1,rfl,o1,b1⟩;have O1:Hid (ja w1 wr.heap.size v1 (succsN F k)):=o1;have G:Hid (ja w1 w.heap.size u5 (yD F b k)):=HO.out.keep b1;have B:Hid (Below w.heap.size w w1):=Bel.after HB.out b1;have t:Hid (w1.heap[w.heap.size]?=some (.cells #[.slice ba n bcap,vi vals] 26 (0,0))):=(b1.block _ (aI HX.out).1).trans HX.out;clear o1 b1 c0 c1;go_wp2_with fail
   refine(Z6 v1 _ b _ O1.out.at).mono ?_;rintro e w2 ⟨rfl,hw2⟩;subst hw2;by_cases H:b∈succsN F k
   ·rw[decide_eq_true H];go_wp2_with (at_builtin;refine wpList_append_own _ rfl _ _ 30 rfl w.heap.size 3 i0 (vi 0) 1 8 Tryz.underlying30 hi hz0 hz1 hz2 rfl (by decide) _ _ _ rfl (World.ownsRow.alloc G.out _) (Z w2.heap.size 0) 1 1 [vi (k:Int)] rfl rfl (cell_one_new _ _ _) (by simp[Value.oneCell']) (by omega) (by omega) (by have:=B.out.size;simp;omega) ?_;intro v' wa r h _;have I:Hid (ja wa w.heap.size v' (yD F b k ++ [(k:Int)])):=ja.next r;have HG:Hid (World.grownBy _ _ _):=h;clear r h)
    go_roundw
    case rel=>exact⟨k+1,by omega,by go_num,by rw[aeq H];exact I.out,B.out.trans (G.out.grown B.out.size HG.out),(HG.out.block _ (by have:=(aI t.out).1;simp;omega) (G.out.zQ t.out (by decide))).trans ((Below.heap_alloc _ _ _ (aI t.out).1).trans t.out)⟩
    case measure=>simp[intOf];omega
   ·rw[decide_eq_false H];go_wp2_with fail
    go_roundw
    case rel=>exact⟨k+1,by omega,by go_num,by rw[aer H];exact G.out,B.out,t.out⟩
    case measure=>simp[intOf];omega
  ·have J:k=n:=by omega
   subst J;go_wp2_with fail
   go_ret;refine⟨_,rfl,?_,HB.out⟩;unfold yf;rw[HN.out];exact HO.out
def seenCells (n:Nat)(seen:List Nat):Array Value:=((List.range n).map (fun i=>Value.bool (decide (i∈seen)))).toArray
def jB (w:World)(g n:Nat)(seen:List Nat):Prop:=w.heap[g]?=some (.cells (seenCells n seen) 4 (0,0))
theorem jB.lt {w:World}{g n:Nat}{seen:List Nat}(h:jB w g n seen):g<w.heap.size:=(aI h).1
theorem jB.cell {w:World}{g n:Nat}{seen:List Nat}(h:jB w g n seen){j:Nat}(hj:j<n):w.cell? (Z g j)=some (.bool (decide (j∈seen))):=by
 simp[World.cell?,show w.heap[g]?=_ from h,seenCells,hj]
theorem jB.frozen {w:World}{g n:Nat}{seen:List Nat}(h:jB w g n seen)(j:Nat):w.frozen? (Z g j)=false:=by simp[World.frozen?,show w.heap[g]?=_ from h]
theorem acd (n:Nat)(seen:List Nat)(b:Nat):(seenCells n seen).setIfInBounds b (.bool true)=seenCells n (b::seen):=by
 apply Array.ext
 ·simp[seenCells]
 ·intro i h1 h2;have hi:i<n:=by simpa [seenCells] using h1
  rw[Array.getElem_setIfInBounds (by simpa [seenCells] using hi)];by_cases e:b=i
  ·subst e;simp[seenCells]
  ·have e2:¬i=b:=fun h=>e h.symm
   simp[seenCells,e,e2]
theorem jB.put {w:World}{g n:Nat}{seen:List Nat}(h:jB w g n seen)(b:Nat):jB (w.setCell (Z g b) (.bool true)) g n (b::seen):=by
 obtain⟨r,hk⟩:=aI h;show(w.heap.modify g _)[g]?=_;rw[Array.getElem?_eq_getElem (by rw[Array.size_modify];exact r),Array.getElem_modify_self,hk];simp[acd]
def ahD (ov ov':Value)(N:Nat):Prop:=ov'.ownBlock=ov.ownBlock∨∀k,ov'.ownBlock=some k→N≤k
structure FrO (g:Nat)(ov:Value)(w w':World):Prop where
 size:w.heap.size≤w'.heap.size
 block:∀k,k<w.heap.size→k≠g→some k≠ov.ownBlock→w'.heap[k]?=w.heap[k]?
theorem FrO.later {g:Nat}{ov:Value}{w a b:World}(h:FrO g ov w a)(k:Below a.heap.size a b):FrO g ov w b :=
 ⟨Nat.le_trans h.size k.size,fun i hi h1 h2=>(k.block i (Nat.lt_of_lt_of_le hi h.size)).trans (h.block i hi h1 h2)⟩
theorem FrO.next {g:Nat}{ov o1:Value}{w a b:World}(h:FrO g ov w a)(hn:ahD ov o1 w.heap.size)(k:FrO g o1 a b):FrO g ov w b :=
 ⟨Nat.le_trans h.size k.size,fun i hi h1 h2=>(k.block i (Nat.lt_of_lt_of_le hi h.size) h1 (fun e=>by
  rcases hn with e2 | e2
  ·exact h2 (e.trans e2)
  ·have:=e2 i e.symm;omega)).trans (h.block i hi h1 h2)⟩
theorem ahE (W:World)(g o:Nat)(v:Value):W.grownBy (W.setCell (Z g o) v) (some g) :=
 ⟨rfl,rfl,rfl,by simp[World.setCell],fun k _ hk=>Below.heap_setCell _ _ _ k (fun e=>hk (by rw[e]))⟩
theorem ja.set {w:World}{lo:Nat}{v:Value}{l:List Int}(h:ja w lo v l){g:Nat}(hne:some g≠v.ownBlock)(o:Nat)(u:Value):ja (w.setCell (Z g o) u) lo v l :=
 World.ownsRow.kept h (ahE w g o u) (.inr hne.symm)
theorem jB.not_row {w:World}{g n:Nat}{seen:List Nat}(h:jB w g n seen){lo:Nat}{v:Value}{l:List Int}(ho:ja w lo v l):some g≠v.ownBlock:=ho.zQ h (by decide)
theorem jB.later {w w':World}{g n:Nat}{seen:List Nat}(h:jB w g n seen)(hb:Below w.heap.size w w'):jB w' g n seen:=(hb.block g h.lt).trans h
def af3 (a b:Value):Prop := ∀k,a.ownBlock=some k→b.ownBlock≠some k
theorem jV.apart {w w':World}{v ov:Value}{l:List Int}(h:jV w v l){g:Nat}(hf:FrO g ov w w')(hv:∀k,v.ownBlock=some k→k<w.heap.size∧k≠g)(ha:af3 v ov):jV w' v l:=by
 obtain⟨a,cap,rfl,hm,hc⟩:=h;refine⟨a,cap,rfl,hm,fun hp=>?_⟩;obtain⟨b,off,rfl,hd⟩:=hc hp;have hb:=hv b rfl;exact⟨b,off,rfl,fun i hi=>by rw[World.cell?_of_block (w:=w) (w':=w') (a:=(Z b (off+i))) (hf.block b hb.1 hb.2 (fun e=>ha b rfl e.symm))];exact hd i hi⟩
def Xl (lo g n:Nat)(W0:World)(ov:Value)(st:Way)(w:World)(e:Ending)(w':World):Prop :=
 ∃ov',e=.returned ov'∧ja w' lo ov' st.2∧jB w' g n st.1∧Below lo W0 w'∧FrO g ov w w'∧ahD ov ov' w.heap.size
theorem aby (F:FnD)(v:Value)(W0:World)(n:Nat)(hF:kJ W0 v F)(hS:jm F)(hN:F.blocks.length=n):∀(f bn:Nat) (st:Way) (ov:Value) (w:World) (g:Nat),
  Below W0.heap.size W0 w→W0.heap.size≤g→jB w g n st.1→ja w W0.heap.size ov st.2→bn<n→bn∉st.1→kR n st.1≤f→st.2.length+kR n st.1≤16→KJ n st →
  Calls Tryz.prog 130 #[v,vi (bn:Int),sq g 0 n n,ov] w fun e w'=>Xl W0.heap.size g n W0 ov (leave (succsN F) f bn st) w e w':=by
 have HF:Hid (kJ W0 v F):=hF;have HS:Hid (jm F):=hS;have HN:Hid (F.blocks.length=n):=hN;have ad:n≤16:=by have:=hS.2.1;omega
 have I:Hid (∀j,∀s∈succsN F j,0≤s∧s<(n:Int)):=by rw[←hN];exact JJ hS
 obtain⟨vals,HV⟩:∃x,Hid (F.values=x):=⟨_,rfl⟩;obtain⟨ba,bcap,rfl⟩:=hF.out HN.out HV.out;clear hF hS hN;intro f;induction f with
 | zero=>
  intro bn st ov w g _ _ _ _ hb hn hu;have:=aa9 hb hn;omega
 | succ f ih=>
  intro bn st ov w g hB hg hs ho hb hn hu hl hw
  have IH:Hid (∀(bn:Nat) (st:Way) (ov:Value) (w:World) (g:Nat),
  Below W0.heap.size W0 w→W0.heap.size≤g→jB w g n st.1→ja w W0.heap.size ov st.2→bn<n→bn∉st.1→kR n st.1≤f→st.2.length+kR n st.1≤16→KJ n st →
  Calls Tryz.prog 130 #[.agg #[.slice ba n bcap,vi vals],vi (bn:Int),sq g 0 n n,ov] w fun e w'=>Xl W0.heap.size g n W0 ov (leave (succsN F) f bn st) w e w'):=ih
  have HB:Hid (Below W0.heap.size W0 w):=hB;have K:Hid (jB w g n st.1):=hs;have HO:Hid (ja w W0.heap.size ov st.2):=ho;have HW:Hid (KJ n st):=hw;have HM:Hid (∀k,kR n (zv (succsN F) f bn st ((succsN F bn).take k)).1≤f∧(zv (succsN F) f bn st ((succsN F bn).take k)).2.length+kR n (zv (succsN F) f bn st ((succsN F bn).take k)).1+1≤16∧KJ n (zv (succsN F) f bn st ((succsN F bn).take k))):=fun k=>
   have hm:=mid_len I.out (f:=f) hb hn hl hw ((succsN F bn).take k) (fun s hs=>I.out bn s (List.mem_of_mem_take hs))
   ⟨afi hb hn hu _,hm.1,hm.2⟩
  have af:g<w.heap.size:=hs.lt;have q1:=hs.cell hb;have q2:=hs.frozen bn;have ae:(bn:Int)<(n:Int):=by omega
  clear ih hB hs ho hw hu hl;go_enter Tryz.func130,Tryz.ntmps130
  go_wp2_with fail
  obtain⟨wB,hwB⟩:∃wB,(w.setCell (Z g bn) (.bool true)).alloc (.cells #[.slice ba n bcap,vi vals] 26)=wB:=⟨_,rfl⟩;have am:wB.heap.size=w.heap.size+1:=by rw[←hwB];simp
  have SB:Hid (jB wB g n (bn::st.1)):=by rw[←hwB];exact(K.out.put bn).later (Bel.alloc _ _)
  have OB:Hid (ja wB W0.heap.size ov st.2):=by rw[←hwB];exact(HO.out.set (K.out.not_row HO.out) _ _).keep (Bel.alloc _ _)
  have BB:Hid (Below W0.heap.size W0 wB):=by rw[←hwB];exact(HB.out.setCell (p:=(Z g bn)) hg _).trans ((Bel.alloc _ _).mono (by have:=HB.out.size;simpa using this))
  have xb:wB.heap[w.heap.size]?=some (.cells #[.slice ba n bcap,vi vals] 26 (0,0)):=by
   rw[←hwB];have h:=World.alloc_heap_new (w.setCell (Z g bn) (.bool true)) (.cells #[.slice ba n bcap,vi vals] 26);simpa using h
  have XB:Hid (wB.heap[w.heap.size]?=some (.cells #[.slice ba n bcap,vi vals] 26 (0,0))):=xb;clear xb;have FB:Hid (FrO g ov w wB):=by
   rw[←hwB];exact FrO.later ⟨by simp,fun k _ h1 _=>Below.heap_setCell _ _ _ k h1⟩ (Bel.alloc _ _)
  try rw[hwB]
  clear hwB q1 q2;refine(zo _ F bn _ (HF.out.later BB.out) (by rw[HN.out];exact hb)).mono ?_;rintro e w1 ⟨nv,rfl,on,b1⟩;have ON:Hid (ja w1 wB.heap.size nv (succsN F bn)):=on;have S1:Hid (jB w1 g n (bn::st.1)):=SB.out.later b1;have O1:Hid (ja w1 W0.heap.size ov st.2):=OB.out.keep b1;have B1:Hid (Below W0.heap.size W0 w1):=BB.out.trans (b1.mono BB.out.size);have X1:Hid (w1.heap[w.heap.size]?=some (.cells #[.slice ba n bcap,vi vals] 26 (0,0))):=(b1.block _ (by omega)).trans XB.out;have V:Hid (FrO g ov w w1):=FB.out.later b1;have ak:w.heap.size+1≤w1.heap.size:=by have:=b1.size;omega
  have NB:Hid (∀k,nv.ownBlock=some k→w.heap.size+1≤k∧k<w1.heap.size):=fun k hk=>by have:=World.ownsRow.lt on k hk;omega
  obtain⟨na,ncap,hnv,_⟩:=on.row;obtain⟨m,HMM⟩:∃m,Hid ((succsN F bn).length=m):=⟨_,rfl⟩;have ah:m≤2:=by rw[←HMM.out];exact zJ _ _
  rw[HMM.out] at hnv;subst hnv;clear b1 on;go_wp2_with fail
  go_loopw [3,10] (fun o i wr=>∃k:Nat,k≤m∧i=vi k∧ja wr W0.heap.size o (zv (succsN F) f bn st ((succsN F bn).take k)).2∧jB wr g n (zv (succsN F) f bn st ((succsN F bn).take k)).1∧Below W0.heap.size W0 wr∧FrO g ov w wr∧ahD ov o w.heap.size∧af3 (.slice na m ncap) o∧w1.heap.size≤wr.heap.size∧jV wr (.slice na m ncap) (succsN F bn)∧wr.heap[w.heap.size]?=some (.cells #[.slice ba n bcap,vi vals] 26 (0,0))) (fun _ i _=>m-(intOf i).toNat)
  case atStart=>
   refine⟨0,Nat.zero_le _,rfl,O1.out,S1.out,B1.out,V.out,.inl rfl,fun k hk e=>?_,Nat.le_refl _,ON.out.at,X1.out⟩;have h1:=(NB.out k hk).1;have h2:=(World.ownsRow.lt HO.out k e).2;omega
  case round=>
   obtain⟨k,hk,rfl,o2,s2,b2,f2,n2,ap2,hs2,i2,x2⟩:=hrel;have O2:Hid (ja wr W0.heap.size u3 (zv (succsN F) f bn st ((succsN F bn).take k)).2):=o2;have S2:Hid (jB wr g n (zv (succsN F) f bn st ((succsN F bn).take k)).1):=s2;have B2:Hid (Below W0.heap.size W0 wr):=b2;have F2:Hid (FrO g ov w wr):=f2;have N2:Hid (ahD ov u3 w.heap.size):=n2;have H:Hid (af3 (.slice na m ncap) u3):=ap2;have I2:Hid (jV wr (.slice na m ncap) (succsN F bn)):=i2;have X2:Hid (wr.heap[w.heap.size]?=some (.cells #[.slice ba n bcap,vi vals] 26 (0,0))):=x2;have c0:wr.cell? (Z w.heap.size 0)=some (.slice ba n bcap):=by simp[World.cell?,x2]
   have c1:wr.cell? (Z w.heap.size 1)=some (vi vals):=by simp[World.cell?,x2]
   clear o2 s2 b2 f2 n2 ap2 i2 x2;by_cases ag:(k:Int)<(m:Int)
   ·have G:k<(succsN F bn).length:=by have:=HMM.out;omega
    obtain⟨an,ncap',hna,hnm,hnc⟩:=I2.out;obtain⟨nb,noff,e0,hnd⟩:=hnc (by omega);subst e0;simp only[Value.slice.injEq] at hna;obtain⟨J,hna2,hna3⟩:=hna;subst J hna3;have q1:=hnd k G;obtain⟨s,HSS⟩:∃s,Hid ((succsN F bn).getD k 0=s):=⟨_,rfl⟩;rw[HSS.out] at q1;have O:s∈succsN F bn:=by rw[←HSS.out];simp[List.getD,G]
    have ac:=I.out bn s O;obtain⟨sn,rfl⟩:∃sn:Nat,s=(sn:Int):=⟨s.toNat,by omega⟩;have U:sn<n:=by omega
    have q2:=S2.out.cell U;have TK:Hid (zv (succsN F) f bn st ((succsN F bn).take (k+1))=kZ (leave (succsN F) f) (zv (succsN F) f bn st ((succsN F bn).take k)) (sn:Int)):=by
     rw[ZE G,HSS.out];exact agD _ _ _ _ _ _
    clear hnd hnc hnm O hna2 ac;by_cases B:sn∈(zv (succsN F) f bn st ((succsN F bn).take k)).1
    ·rw[decide_eq_true B] at q2;have TE:Hid (zv (succsN F) f bn st ((succsN F bn).take (k+1))=zv (succsN F) f bn st ((succsN F bn).take k)):=TK.out.trans (QC (by simpa using B));clear B;go_wp2_with fail
     go_roundw
     case rel=>
      refine⟨k+1,by omega,by go_num,?_,?_,B2.out,F2.out,N2.out,H.out,hs2,I2.out,X2.out⟩
      ·rw[TE.out];exact O2.out
      ·rw[TE.out];exact S2.out
     case measure=>simp[intOf];omega
    ·rw[decide_eq_false B] at q2;have TE:Hid (zv (succsN F) f bn st ((succsN F bn).take (k+1))=leave (succsN F) f sn (zv (succsN F) f bn st ((succsN F bn).take k))):=TK.out.trans (Ka (by simpa using B));have aa:Hid (¬sn∈(zv (succsN F) f bn st ((succsN F bn).take k)).1):=B;clear B;go_wp2_with fail
     obtain⟨mu,ml,mw⟩:=HM.out k;have ML:Hid ((zv (succsN F) f bn st ((succsN F bn).take k)).2.length+kR n (zv (succsN F) f bn st ((succsN F bn).take k)).1≤16):=by show _≤_;omega
     have MU:Hid (kR n (zv (succsN F) f bn st ((succsN F bn).take k)).1≤f):=mu;have MW:Hid (KJ n (zv (succsN F) f bn st ((succsN F bn).take k))):=mw;clear mu ml mw
     go_region_with (go_at_call 130;refine(IH.out sn (zv (succsN F) f bn st ((succsN F bn).take k)) u3 _ g (by first | exact B2.out.drew | exact B2.out) hg (by exact S2.out) (by exact O2.out) U aa.out MU.out ML.out MW.out).mono ?_;rintro e w3 ⟨o',rfl,o3,s3,b3,f3,n3⟩;have O3:Hid (ja w3 W0.heap.size o' (leave (succsN F) f sn (zv (succsN F) f bn st ((succsN F bn).take k))).2):=o3;have S3:Hid (jB w3 g n (leave (succsN F) f sn (zv (succsN F) f bn st ((succsN F bn).take k))).1):=s3;have B3:Hid (Below W0.heap.size W0 w3):=b3;have F3:Hid (FrO g u3 wr w3):=⟨f3.size,f3.block⟩;have N3:Hid (ahD u3 o' wr.heap.size):=n3;clear o3 s3 b3 f3 n3)
     all_goals
      go_wp2_with fail
      go_roundw
      case rel=>
       refine⟨k+1,by omega,by go_num,?_,?_,B3.out,F2.out.next N2.out F3.out,?_,?_,Nat.le_trans hs2 F3.out.size,?_,?_⟩
       ·rw[TE.out];exact O3.out
       ·rw[TE.out];exact S3.out
       ·rcases N3.out with e | e
        ·rcases N2.out with e2 | e2
         ·exact .inl (e.trans e2)
         ·exact .inr (fun j hj=>e2 j (e▸hj))
        ·exact .inr (fun j hj=>Nat.le_trans F2.out.size (e j hj))
       ·intro j hj e;rcases N3.out with e2 | e2
        ·exact H.out j hj (e2▸e)
        ·have h1:=e2 j e;have h2:=(NB.out j hj).2;omega
       ·exact I2.out.apart F3.out (fun j hj=>⟨by have:=(NB.out j hj).2;omega,by have:=(NB.out j hj).1;omega⟩) H.out
       ·exact(F3.out.block _ (by have:=F2.out.size;omega) (by omega) (O2.out.zQ X2.out (by decide))).trans X2.out
      case measure=>simp[intOf];omega
   ·have G:k=m:=by omega
    subst G;have TE:Hid (zv (succsN F) f bn st ((succsN F bn).take k)=zv (succsN F) f bn st (succsN F bn)):=by
     show _=_;rw[←HMM.out,List.take_length]
    obtain⟨_,ml,_⟩:=HM.out k;have aj:(zv (succsN F) f bn st ((succsN F bn).take k)).2.length≤16:=by omega
    obtain⟨i0,hi,hz0,hz1,hz2⟩:=info_parts y7;have ai:100≤maxLen:=by decide
    clear ml c0 c1;go_wp2_with (at_builtin;refine wpList_append_own_at _ rfl _ _ 30 rfl W0.heap.size 3 i0 (vi 0) 1 8 Tryz.underlying30 hi hz0 hz1 hz2 rfl (by decide) _ _ _ rfl (World.ownsRow.alloc O2.out _) (Z wr.heap.size 0) 1 1 [vi (bn:Int)] rfl rfl (cell_one_new _ _ _) (by simp[Value.oneCell']) (by omega) (by omega) (by have:=B2.out.size;simp;omega) ?_;intro v' wa t r _ L;have ab:Hid (ja wa W0.heap.size v' ((zv (succsN F) f bn st ((succsN F bn).take k)).2 ++ [(bn:Int)])):=ja.next t;have HG:Hid ((wr.alloc (.cells #[vi (bn:Int)] 3)).grownBy wa u3.ownBlock):=r;have X:Hid (v'.ownBlock=u3.ownBlock∨v'.ownBlock=some (wr.alloc (.cells #[vi (bn:Int)] 3)).heap.size):=L;clear t r L)
    go_ret;refine⟨_,rfl,?_,?_,?_,?_,?_⟩
    ·rw[Kz];show ja _ _ _ ((zv (succsN F) f bn st (succsN F bn)).2 ++ [(bn:Int)]);rw[←TE.out];exact ab.out
    ·rw[Kz];show jB _ _ _ (zv (succsN F) f bn st (succsN F bn)).1;rw[←TE.out];exact(HG.out.block g (by have:=S2.out.lt;simp;omega) (S2.out.not_row O2.out)).trans ((Below.heap_alloc wr _ g S2.out.lt).trans S2.out)
    ·exact B2.out.trans (O2.out.grown B2.out.size HG.out)
    ·exact F2.out.next N2.out ⟨by have:=HG.out.size;simp at this;omega,fun j hj _ h2=>(HG.out.block j (by simp;omega) h2).trans (Below.heap_alloc wr _ j hj)⟩
    ·rcases X.out with e | e
     ·rcases N2.out with e2 | e2
      ·exact .inl (e.trans e2)
      ·exact .inr (fun j hj=>e2 j (e▸hj))
     ·refine .inr (fun j hj=>?_);have M:v'.ownBlock=some j:=hj;rw[e] at M;simp at M;have:=F2.out.size;omega
theorem ahF (n:Nat):madeCells #[.bool false] n=seenCells n []:=by
 apply Array.toList_inj.1
 rw[toList_madeCells_one];simp[seenCells];exact(List.eq_replicate_iff.2 ⟨by simp,by simp⟩).symm
theorem Jf (n:Nat)(hn:n≤1048576)(w:World) :
  (Instr.makeSlice 56 (vi (n:Int)) (vi (n:Int))).run Tryz.prog w=.ok (sq w.heap.size 0 n n) (w.alloc (.cells (madeCells #[.bool false] n) 4)) :=
 by
 have h:=aeB (z:=.bool false) (size:=1) (bytes:=1) Tryz.underlying56 (by kernel_rfl) n (by omega) (by omega) w;rw[Nat.mul_one] at h;exact h
theorem Xm {w:World}{n g:Nat}(hg:w.heap.size=g):jB (w.alloc (.cells (madeCells #[.bool false] n) 4)) g n []:=by
 subst hg;rw[ahF];exact World.alloc_heap_new w _
theorem jB.store {w:World}{g n:Nat}{seen seen':List Nat}(h:jB w g n seen)(b:Nat)(v:Bool)(hm:∀i,i<n→decide (i∈seen')=if i=b then v else decide (i∈seen)):jB (w.setCell (Z g b) (.bool v)) g n seen':=by
 obtain⟨r,hk⟩:=aI h;show(w.heap.modify g _)[g]?=_;rw[Array.getElem?_eq_getElem (by rw[Array.size_modify];exact r),Array.getElem_modify_self,hk];have e:(seenCells n seen).setIfInBounds b (.bool v)=seenCells n seen':=by
  apply Array.ext
  ·simp[seenCells]
  ·intro i h1 h2;have hi:i<n:=by simpa [seenCells] using h1
   rw[Array.getElem_setIfInBounds (by simpa [seenCells] using hi)];have h3:=hm i hi;have e1:(seenCells n seen')[i]=.bool (decide (i∈seen')):=by simp[seenCells]
   have e2:(seenCells n seen)[i]'(by simpa [seenCells] using hi)=.bool (decide (i∈seen)):=by simp[seenCells]
   rw[e1,e2,h3];by_cases e:b=i
   ·subst e;simp
   ·have e3:¬i=b:=fun h=>e h.symm
    simp[e,e3]
 simp[e]
theorem jB.drew {w:World}{g n:Nat}{seen:List Nat}(h:jB w g n seen):jB w.drew g n seen:=h
theorem ja.drew {w:World}{lo:Nat}{v:Value}{l:List Int}(h:ja w lo v l):ja w.drew lo v l:=h
theorem ahG {L:List Int}{j:Nat}(h:j<L.length):(L.drop j).reverse=(L.drop (j+1)).reverse ++ [L.getD j 0]:=by
 rw[List.drop_eq_getElem_cons h,List.reverse_cons];simp[List.getD,h]
theorem Z7 (F:FnD)(v:Value)(W0:World)(n:Nat)(hF:kJ W0 v F)(hS:jm F)(hN:F.blocks.length=n)(ov:Value)(w:World)(g:Nat)(h0:0<n)(h16:n≤16)
  (hB:Below W0.heap.size W0 w) (hg:W0.heap.size≤g) (hs:jB w g n []) (ho:ja w W0.heap.size ov []) :
  Calls Tryz.prog 130 #[v,vi 0,sq g 0 n n,ov] w fun e w'=>Xl W0.heap.size g n W0 ov (qP F) w e w':=by
 have h:=aby F v W0 n hF hS hN n 0 ([],[]) ov w g hB hg hs ho h0 (by simp) (by rw[zX];omega) (by rw[zX];simp;omega) ⟨by simp,by simp⟩;have e:leave (succsN F) n 0 ([],[])=qP F:=by rw[←hN];exact(rfl:qP F=qP F)
 rw[e] at h;exact h
theorem Z8 (v:Value)(F:FnD)(w:World)(hF:kJ w v F)(hS:jm F) :
  Calls Tryz.prog 117 #[v] w fun e w'=>JS w (qP F).2.reverse e w':=by
 have HF:Hid (kJ w v F):=hF;have HS:Hid (jm F):=hS;obtain⟨n,HN⟩:∃n,Hid (F.blocks.length=n):=⟨_,rfl⟩;obtain⟨vals,HV⟩:∃x,Hid (F.values=x):=⟨_,rfl⟩;obtain⟨ba,bcap,rfl⟩:=hF.out HN.out HV.out;have J:n≤16:=by rw[←HN.out];exact hS.2.1
 have h1:1≤n:=by rw[←HN.out];exact hS.1
 clear hF hS;obtain⟨L,HL⟩:∃L,Hid ((qP F).2=L):=⟨_,rfl⟩;have K:L.length≤16:=by have:=(Y9 HS.out).1;rw[HL.out,HN.out] at this;omega
 obtain⟨i0,hi,hz0,hz1,hz2⟩:=info_parts y7;have aa:100≤maxLen:=by decide
 have U:=Jf n (by omega);obtain⟨wA,hwA⟩:∃wA,w.alloc (.cells #[.slice ba n bcap,vi vals] 26)=wA:=⟨_,rfl⟩;have ab:wA.heap.size=w.heap.size+1:=by rw[←hwA];simp
 have HA:Hid (Below w.heap.size w wA):=by rw[←hwA];exact Bel.alloc _ _
 have c0:wA.cell? (Z w.heap.size 0)=some (.slice ba n bcap):=by rw[←hwA];simp[go_sem]
 have c1:wA.cell? (Z w.heap.size 1)=some (vi vals):=by rw[←hwA];simp[go_sem]
 go_enter Tryz.func117,Tryz.ntmps117
 go_wp2_with fail
 try rw[hwA]
 clear hwA
 go_region_with (go_at_call 130;refine(Z7 F _ w n HF.out HS.out HN.out _ _ _ (by omega) J (by repeat (first | exact HA.out | apply Below.drew | refine Below.alloc ?_ (by first | omega | (simp;omega)) _)) (by omega) (by (try refine jB.drew ?_);first | exact(Xm (by omega)).later (Bel.alloc _ _) | exact Xm (by simp <;> omega)) (by (try refine ja.drew ?_);first | exact(ke (by omega) (by omega)).keep (Bel.alloc _ _) | exact ke (by simp <;> omega) (by omega))).mono ?_;rintro e w3 ⟨o',rfl,o3,s3,b3,f3,n3⟩;have O3:Hid (ja w3 w.heap.size o' (qP F).2):=o3;have B3:Hid (Below w.heap.size w w3):=b3;clear o3 s3 b3 f3 n3)
 all_goals
  have OL:Hid (jV w3 o' L):=by rw[←HL.out];exact O3.out.at
  have X:Hid (∀k,o'.ownBlock=some k→k<w3.heap.size):=fun k hk=>(World.ownsRow.lt O3.out k hk).2
  obtain⟨la,lcap,hov,hlm,_⟩:=OL.out;obtain⟨m,HM⟩:∃m,Hid (L.length=m):=⟨_,rfl⟩;rw[HM.out] at hov K;subst hov;clear c0 c1 U hlm;go_wp2_with fail
  go_loopw [4,5] (fun o i wr=>∃(j:Nat) (z:Int),j≤m∧i=vi z∧z=(j:Int)-1∧ja wr w3.heap.size o (L.drop j).reverse∧Below w3.heap.size w3 wr) (fun _ i _=>(intOf i+1).toNat)
  case atStart=>
   refine⟨m,(m:Int)-1,Nat.le_refl _,by go_num,rfl,?_,Bel.alloc _ _⟩;rw[List.drop_eq_nil_of_le (by rw[HM.out];omega)];exact ke (by simp) (by omega)
  case round=>
   obtain⟨j,z,hj,rfl,hz,o4,b4⟩:=hrel;have O4:Hid (ja wr w3.heap.size u4 (L.drop j).reverse):=o4;have B4:Hid (Below w3.heap.size w3 wr):=b4;have H:(L.drop j).reverse.length≤16:=by rw[List.length_reverse,List.length_drop,HM.out];omega
   have G:Hid ((L.drop j).reverse.length≤16):=H;clear o4 b4 H;by_cases M:0<j
   ·obtain⟨j,rfl⟩:∃j',j=j'+1:=⟨j-1,by omega⟩;obtain rfl:z=(j:Int):=by omega
    obtain⟨ac,lcap',hla,_,hlc⟩:=OL.out.keep B4.out;obtain⟨lb,loff,e0,hld⟩:=hlc (by rw[HM.out];omega);subst e0;simp only[Value.slice.injEq] at hla;obtain⟨B,hla2,hla3⟩:=hla;subst B hla3;clear hla2;have q1:=hld j (by rw[HM.out];omega);obtain⟨x,HX⟩:∃x,Hid (L.getD j 0=x):=⟨_,rfl⟩;rw[HX.out] at q1;have O:(j:Int)<(m:Int):=by omega
    clear hld hlc hz M;go_wp2_with (at_builtin;refine wpList_append_own _ rfl _ _ 30 rfl w3.heap.size 3 i0 (vi 0) 1 8 Tryz.underlying30 hi hz0 hz1 hz2 rfl (by decide) _ _ _ rfl (World.ownsRow.alloc O4.out _) (Z wr.heap.size 0) 1 1 [vi x] rfl rfl (cell_one_new _ _ _) (by simp[Value.oneCell']) (by have:=G.out;omega) (by have:=G.out;omega) (by have:=B4.out.size;simp;omega) ?_;intro v' wa t r _;have I:Hid (ja wa w3.heap.size v' ((L.drop (j+1)).reverse ++ [x])):=ja.next t;have HG:Hid ((wr.alloc (.cells #[vi x] 3)).grownBy wa u4.ownBlock):=r;clear t r)
    go_roundw
    case rel=>
     refine⟨j,(j:Int)-1,by omega,by go_num,rfl,?_,B4.out.trans (O4.out.grown B4.out.size HG.out)⟩;rw[ahG (by rw[HM.out];omega),HX.out];exact I.out
    case measure=>simp[intOf];try omega
   ·obtain rfl:j=0:=by omega
    have V:¬(0:Int)≤z:=by omega
    clear hz;go_wp2_with fail
    go_ret;refine⟨_,rfl,?_,Bel.after B3.out B4.out⟩;rw[HL.out];have h:=O4.out;rw[List.drop_zero] at h;exact h.low B3.out.size
theorem Yq (w:World)(lo:Nat):ja w lo (.slice none 0 0) []:=⟨rfl,.inl ⟨rfl,rfl⟩⟩
structure OwnRows (w:World)(lo g n:Nat)(us:Array Value)(ls:Nat→List Int):Prop where
 box:w.heap[g]?=some (.cells us 30 (0,0))
 size:us.size=n
 low:lo≤g
 row:∀i,i<n→ja w lo (us.getD i (.slice none 0 0)) (ls i)
 apart:∀i j,i<n→j<n→i≠j→af3 (us.getD i (.slice none 0 0)) (us.getD j (.slice none 0 0))
theorem OwnRows.lt {w:World}{lo g n:Nat}{us:Array Value}{ls:Nat→List Int}(h:OwnRows w lo g n us ls):g<w.heap.size:=(aI h.box).1
theorem OwnRows.keep {w w':World}{lo g n:Nat}{us:Array Value}{ls:Nat→List Int}(h:OwnRows w lo g n us ls)(hb:Below w.heap.size w w'):OwnRows w' lo g n us ls :=
 ⟨(hb.block g h.lt).trans h.box,h.size,h.low,fun i hi=>(h.row i hi).keep hb,h.apart⟩
theorem OwnRows.congr {w:World}{lo g n:Nat}{us:Array Value}{ls ms:Nat→List Int}(h:OwnRows w lo g n us ls)(e:∀i,i<n→ls i=ms i):OwnRows w lo g n us ms :=
 ⟨h.box,h.size,h.low,fun i hi=>by rw[←e i hi];exact h.row i hi,h.apart⟩
theorem OwnRows.cell {w:World}{lo g n:Nat}{us:Array Value}{ls:Nat→List Int}(h:OwnRows w lo g n us ls){i:Nat}(hi:i<n):w.cell? (Z g i)=some (us.getD i (.slice none 0 0)):=by
 have:i<us.size:=by rw[h.size];exact hi
 simp[World.cell?,h.box,this]
theorem Xn (n i:Nat):(madeCells #[.slice none 0 0] n).getD i (.slice none 0 0)=.slice none 0 0:=by
 have:madeCells #[Value.slice none 0 0] n=(List.replicate n (Value.slice none 0 0)).toArray:=by
  apply Array.toList_inj.1
  rw[toList_madeCells_one]
 rw[this];by_cases h:i<n <;> simp[Array.getD,h]
theorem adt (n:Nat):(madeCells #[.slice none 0 0] n).size=n:=by
 rw[←Array.length_toList,toList_madeCells_one];simp
theorem ael {w:World}{n g lo:Nat}(hg:w.heap.size=g)(hl:lo≤g):OwnRows (w.alloc (.cells (madeCells #[.slice none 0 0] n) 30)) lo g n (madeCells #[.slice none 0 0] n) (fun _=>[]):=by
 subst hg;refine⟨World.alloc_heap_new w _,adt n,hl,fun i _=>?_,fun i j _ _ _=>?_⟩
 ·rw[Xn];exact Yq _ _
 ·rw[Xn];intro k hk;simp[Value.ownBlock] at hk
theorem ahH (n:Nat)(hn:n≤1048576)(w:World) :
  (Instr.makeSlice 28 (vi (n:Int)) (vi (n:Int))).run Tryz.prog w=.ok (sq w.heap.size 0 n n) (w.alloc (.cells (madeCells #[.slice none 0 0] n) 30)):=by
 have h:=aeB (z:=.slice none 0 0) (size:=1) (bytes:=24) Tryz.underlying28 (by kernel_rfl) n (by omega) (by omega) w;rw[Nat.mul_one] at h;exact h
theorem OwnRows.grown {W wa:World}{lo g n:Nat}{us:Array Value}{ls:Nat→List Int}(h:OwnRows W lo g n us ls){b:Nat}(hb:b<n){o:Obj}(hg:(W.alloc o).grownBy wa (us.getD b (.slice none 0 0)).ownBlock){v':Value}{l:List Int}(hv:ja wa lo v' l)
  (hat:v'.ownBlock=(us.getD b (.slice none 0 0)).ownBlock∨v'.ownBlock=some (W.alloc o).heap.size) :
  wa.cell? (Z g b)=some (us.getD b (.slice none 0 0))∧wa.frozen? (Z g b)=false∧OwnRows (wa.setCell (Z g b) v') lo g n (us.setIfInBounds b v') (fun i=>if i=b then l else ls i):=by
 have K:=h.lt;have t:wa.heap[g]?=some (.cells us 30 (0,0)):=(hg.block g (by simp;omega) ((h.row b hb).zQ h.box (by decide))).trans ((Below.heap_alloc W _ g K).trans h.box);have J:b<us.size:=by rw[h.size];exact hb
 refine⟨by simp[World.cell?,t,J],by simp[World.frozen?,t],?_⟩;have key:∀i,i<n→i≠b→ja wa lo (us.getD i (.slice none 0 0)) (ls i):=fun i hi r=>by
  refine World.ownsRow.kept (World.ownsRow.alloc (h.row i hi) _) hg ?_;by_cases hn:∃k,(us.getD i (.slice none 0 0)).ownBlock=some k
  ·obtain⟨k,hk⟩:=hn;exact .inr (fun e=>h.apart i b hi hb r k hk (by rw[←e];exact hk))
  ·rcases(h.row i hi).2 with ⟨e,_⟩ | ⟨g',cap,cur,e,_⟩
   ·exact .inl (by rw[e];rfl)
   ·exact absurd ⟨g',by rw[e];simp[Value.ownBlock]⟩ hn
 have H:∀i,i<n→i≠b→af3 (us.getD i (.slice none 0 0)) v':=fun i hi r k hk B=>by
  rcases hat with e | e
  ·exact h.apart i b hi hb r k hk (by rw[←e];exact B)
  ·have h1:=(World.ownsRow.lt (h.row i hi) k hk).2;rw[e] at B;simp at B;omega
 have G:∀i,i<n→(us.setIfInBounds b v').getD i (.slice none 0 0)=if i=b then v' else us.getD i (.slice none 0 0):=fun i hi=>by
  have I:i<us.size:=by rw[h.size];exact hi
  by_cases e:i=b
  ·subst e;simp[Array.getD,I]
  ·have e2:¬b=i:=fun h=>e h.symm
   simp[Array.getD,I,e,e2]
 refine⟨?_,by simp[h.size],h.low,fun i hi=>?_,fun i j hi hj r=>?_⟩
 ·obtain⟨L,hk⟩:=aI t;show(wa.heap.modify g _)[g]?=_;rw[Array.getElem?_eq_getElem (by rw[Array.size_modify];exact L),Array.getElem_modify_self,hk]
  rfl
 ·rw[G i hi];by_cases e:i=b
  ·simp only[e,if_true];exact hv.set (hv.zQ t (by decide)) _ _
  ·simp only[e,if_false];exact(key i hi e).set ((key i hi e).zQ t (by decide)) _ _
 ·rw[G i hi,G j hj];by_cases e:i=b
  ·have e2:¬j=b:=fun h=>r (e.trans h.symm)
   simp only[e,e2,if_true,if_false];intro k hk B;exact H j hj e2 k B hk
  ·by_cases e2:j=b
   ·simp only[e,e2,if_true,if_false];exact H i hi e
   ·simp only[e,e2,if_false];exact h.apart i j hi hj r
def ahI (w:World)(n:Nat)(ls:Nat→List Int)(e:Ending)(w':World):Prop := ∃g us,e=.returned (sq g 0 n n)∧OwnRows w' w.heap.size g n us ls∧Below w.heap.size w w'
def ahJ (w:World)(n:Nat)(p:Nat→Prop)(e:Ending)(w':World):Prop := ∃g L,e=.returned (sq g 0 n n)∧w.heap.size≤g∧jB w' g n L∧(∀x,x<n→(x∈L↔p x))∧Below w.heap.size w w'
theorem aem (F:FnD)(v:Value)(W0:World)(n:Nat)(hF:kJ W0 v F)(hS:jm F)(hN:F.blocks.length=n)(gone:Nat)(hgn:gone≠0)(ov:Value)(w:World)(g:Nat)(h0:0<n)(h16:n≤16)
  (hg1:gone<n) (hB:Below W0.heap.size W0 w) (hg:W0.heap.size≤g) (hs:jB w g n [gone]) (ho:ja w W0.heap.size ov []) :
  Calls Tryz.prog 130 #[v,vi 0,sq g 0 n n,ov] w fun e w'=>Xl W0.heap.size g n W0 ov (leave (succsN F) n 0 ([gone],[])) w e w':=by
 have hu:kR n [gone]≤n:=Nat.le_trans (KE (a := []) (by simp)) (by rw[zX];exact Nat.le_refl _);exact aby F v W0 n hF hS hN n 0 ([gone],[]) ov w g hB hg hs ho h0 (by simp;omega) hu (by simp;omega) ⟨by simp;omega,by simp⟩
theorem ace (v:Value)(F:FnD)(gone:Nat)(w:World)(hF:kJ w v F)(hS:jm F)(hg:gone<F.blocks.length) :
  Calls Tryz.prog 136 #[v,vi (gone:Int)] w fun e w'=>ahJ w F.blocks.length (Rea (succsN F) (· = gone)) e w':=by
 have HF:Hid (kJ w v F):=hF;have HS:Hid (jm F):=hS;obtain⟨n,HN⟩:∃n,Hid (F.blocks.length=n):=⟨_,rfl⟩;obtain⟨vals,HV⟩:∃x,Hid (F.values=x):=⟨_,rfl⟩;obtain⟨ba,bcap,rfl⟩:=hF.out HN.out HV.out;have r:n≤16:=by rw[←HN.out];exact hS.2.1
 have h1:1≤n:=by rw[←HN.out];exact hS.1
 rw[HN.out] at hg ⊢;clear hF hS;have t:=Jf n (by omega);by_cases hz:gone=0
 ·subst hz;go_enter Tryz.func136,Tryz.ntmps136
  go_wp2_with fail
  go_ret;refine⟨_,[],rfl,by omega,Xm (by simp),fun x hx=>?_,by repeat (first | exact Below.refl _ _ | apply Below.drew | refine Below.alloc ?_ (by simp <;> omega) _ | refine Below.setCell ?_ (by simp <;> omega) _)⟩;simp only[List.not_mem_nil,false_iff];clear hx;intro h;induction h with
  | base h=>exact h rfl
  | step _ _ _ ih=>exact ih
 ·have H:((gone:Int) == 0)=false:=by simp;exact hz
  have B:(gone:Int)<(n:Int):=by omega
  obtain⟨wA,hwA⟩:∃wA,(w.alloc (.cells #[.slice ba n bcap,vi vals] 26)).alloc (.cells (madeCells #[.bool false] n) 4)=wA:=⟨_,rfl⟩;have G:wA.heap.size=w.heap.size+2:=by rw[←hwA];simp
  have HA:Hid (Below w.heap.size w wA):=by rw[←hwA];repeat (first | exact Below.refl _ _ | apply Below.drew | refine Below.alloc ?_ (by simp <;> omega) _ | refine Below.setCell ?_ (by simp <;> omega) _)
  have SA:Hid (jB wA (w.heap.size+1) n []):=by rw[←hwA];exact Xm (by simp)
  have q1:wA.cell? (Z (w.heap.size+1) gone)=some (.bool false):=by simpa using SA.out.cell hg
  have q2:=SA.out.frozen gone;have c0:wA.cell? (Z w.heap.size 0)=some (.slice ba n bcap):=by rw[←hwA];simp[go_sem]
  have c1:wA.cell? (Z w.heap.size 1)=some (vi vals):=by rw[←hwA];simp[go_sem]
  go_enter Tryz.func136,Tryz.ntmps136
  go_wp2_with fail
  obtain⟨wB,hwB⟩:∃wB,(wA.setCell (Z (w.heap.size+1) gone) (.bool true)).alloc (.cells #[] 3)=wB:=⟨_,rfl⟩;have SB:Hid (jB wB (w.heap.size+1) n [gone]):=by rw[←hwB];exact(SA.out.put gone).later (Bel.alloc _ _)
  have OB:Hid (ja wB w.heap.size (sq (w.heap.size+2) 0 0 0) []):=by rw[←hwB];exact ke (by simp;omega) (by omega)
  have BB:Hid (Below w.heap.size w wB):=by rw[←hwB];exact(HA.out.setCell (p:=(Z (w.heap.size+1) gone)) (by show w.heap.size≤w.heap.size+1;omega) _).trans ((Bel.alloc _ _).mono (by have:=HA.out.size;simpa using this))
  rw[hwB];clear hwB q1 q2 t c0 c1 hwA;refine(aem F _ w n HF.out HS.out HN.out gone hz _ _ (w.heap.size+1) (by omega) r hg BB.out (by omega) SB.out OB.out).mono ?_;rintro e w3 ⟨o',rfl,o3,s3,b3,f3,n3⟩;obtain⟨L,HL⟩:∃L,Hid ((leave (succsN F) n 0 ([gone],[])).1=L):=⟨_,rfl⟩;rw[HL.out] at s3;have S3:Hid (jB w3 (w.heap.size+1) n L):=s3;have B3:Hid (Below w.heap.size w w3):=b3;have q1:=s3.cell hg;have q2:=s3.frozen gone;clear o3 s3 b3 f3 n3;go_wp2_with fail
  go_ret;refine⟨_,L.filter (fun x=>decide (x≠gone)),rfl,by omega,S3.out.store gone false (fun i hi=>?_),fun x hx=>?_,B3.out.setCell (p:=(Z (w.heap.size+1) gone)) (by show w.heap.size≤w.heap.size+1;omega) _⟩
  ·by_cases e:i=gone <;> simp[e]
  ·have h0:0∉[gone]:=by simp;omega
   have hr:=agF (n:=n) (by rw[←HN.out];exact JJ HS.out) (by omega) [gone] h0 [] (Nat.le_refl n) x;rw[HL.out] at hr;rw[List.mem_filter,hr];constructor
   ·rintro⟨h | h,h2⟩
    ·simp at h h2;exact absurd h h2
    ·exact h.mono (by simp)
   ·intro h;exact⟨.inr (h.mono (by simp)),by simpa using h.not⟩
noncomputable def zS (F:FnD)(k j:Nat):Nat→List Int:=fun i=>if i<j then xj F i (k+1) else xj F i k
theorem ahK {F:FnD}{k j:Nat}(h:domB F k j=true)(i:Nat):(if i=j then zS F k j j ++ [(k:Int)] else zS F k j i)=zS F k (j+1) i:=by
 unfold zS;by_cases e:i=j
 ·subst e;simp[afj h]
 ·have e2:i<j+1↔i<j:=by omega
  simp[e,e2]
theorem Z9 {F:FnD}{k j:Nat}(h:domB F k j=false)(i:Nat):zS F k j i=zS F k (j+1) i:=by
 unfold zS;by_cases e:i=j
 ·subst e;simp[afk h]
 ·have e2:i<j+1↔i<j:=by omega
  simp[e2]
theorem OwnRows.other {W wa:World}{lo g n:Nat}{us:Array Value}{ls:Nat→List Int}(h:OwnRows W lo g n us ls){b:Nat}(hb:b<n){o:Obj}(hg:(W.alloc o).grownBy wa (us.getD b (.slice none 0 0)).ownBlock){B:Nat}{c:Array Value}{t:TypeId}{z:Nat × Nat}(hB:W.heap[B]?=some (.cells c t z))(ht:t≠3)(hne:B≠g)(v':Value) :
  (wa.setCell (Z g b) v').heap[B]?=some (.cells c t z):=by
 have hl:=(aI hB).1;rw[Below.heap_setCell _ _ _ B hne];exact(hg.block B (by simp;omega) ((h.row b hb).zQ hB ht)).trans ((Below.heap_alloc W _ B hl).trans hB)
theorem ahL {F:FnD}{k j:Nat}{L:List Nat}(hL:j∈L↔Rea (succsN F) (· = k) j):domB F k j=(decide (k∈(qP F).1) && (decide (j∈(qP F).1) && !decide (j∈L))):=by
 rw[Bool.eq_iff_iff,domB_iff];simp[Dom,hL]
theorem af4 (v:Value)(F:FnD)(w:World)(hF:kJ w v F)(hS:jm F) :
  Calls Tryz.prog 132 #[v] w fun e w'=>ahI w F.blocks.length (KL F) e w':=by
 have HF:Hid (kJ w v F):=hF;have HS:Hid (jm F):=hS;obtain⟨n,HN⟩:∃n,Hid (F.blocks.length=n):=⟨_,rfl⟩;obtain⟨vals,HV⟩:∃x,Hid (F.values=x):=⟨_,rfl⟩;obtain⟨ba,bcap,rfl⟩:=hF.out HN.out HV.out;have aa:n≤16:=by rw[←HN.out];exact hS.2.1
 have h1:1≤n:=by rw[←HN.out];exact hS.1
 rw[HN.out];clear hF hS;have ad:=Jf n (by omega);have ae:=ahH n (by omega);go_enter Tryz.func132,Tryz.ntmps132
 go_wp2_with fail
 obtain⟨wA,hwA⟩:∃wA,(((w.alloc (.cells #[.slice ba n bcap,vi vals] 26)).alloc (.cells (madeCells #[.slice none 0 0] n) 30)).alloc (.cells (madeCells #[.bool false] n) 4)).alloc (.cells #[] 3)=wA:=⟨_,rfl⟩;have BA:Hid (Below w.heap.size w wA):=by rw[←hwA];repeat (first | exact Below.refl _ _ | apply Below.drew | refine Below.alloc ?_ (by simp <;> omega) _ | refine Below.setCell ?_ (by simp <;> omega) _)
 have af:wA.heap.size=w.heap.size+4:=by rw[←hwA];simp
 have XA:Hid (wA.heap[w.heap.size]?=some (.cells #[.slice ba n bcap,vi vals] 26 (0,0))):=by
  rw[←hwA];exact(Below.heap_alloc _ _ _ (by simp <;> omega)).trans ((Below.heap_alloc _ _ _ (by simp <;> omega)).trans ((Below.heap_alloc _ _ _ (by simp)).trans (World.alloc_heap_new _ _)))
 have RA:Hid (OwnRows wA w.heap.size (w.heap.size+1) n (madeCells #[.slice none 0 0] n) (fun _=>[])):=by
  rw[←hwA];exact((ael (by simp) (by omega)).keep (Bel.alloc _ _)).keep (Bel.alloc _ _)
 have SA:Hid (jB wA (w.heap.size+1+1) n []):=by rw[←hwA];exact(Xm (by simp)).later (Bel.alloc _ _)
 have OA:Hid (ja wA w.heap.size (sq (w.heap.size+1+1+1) 0 0 0) []):=by rw[←hwA];exact ke (by simp) (by omega)
 have M:Hid ((sq (w.heap.size+1+1+1) 0 0 0).ownBlock=some (w.heap.size+1+1+1)):=rfl;rw[hwA];clear hwA ad ae;refine(Z7 F _ w n HF.out HS.out HN.out _ _ (w.heap.size+1+1) (by omega) aa BA.out (by omega) SA.out OA.out).mono ?_;rintro e w1 ⟨o',rfl,o1,s1,b1,f1,n1⟩;have S1:Hid (jB w1 (w.heap.size+1+1) n (qP F).1):=s1;have B1:Hid (Below w.heap.size w w1):=b1;have x1:w1.heap[w.heap.size]?=some (.cells #[.slice ba n bcap,vi vals] 26 (0,0)):=(f1.block _ (by omega) (by omega) (by rw[M.out];simp <;> omega)).trans XA.out;have X1:Hid (w1.heap[w.heap.size]?=some (.cells #[.slice ba n bcap,vi vals] 26 (0,0))):=x1;have R1:Hid (OwnRows w1 w.heap.size (w.heap.size+1) n (madeCells #[.slice none 0 0] n) (fun _=>[])):=by
  refine⟨(f1.block _ (by omega) (by omega) (by rw[M.out];simp <;> omega)).trans RA.out.box,adt n,by omega,fun i _=>?_,fun i j _ _ _=>?_⟩
  ·rw[Xn];exact Yq _ _
  ·rw[Xn];intro k hk;simp[Value.ownBlock] at hk
 have ak:w.heap.size+4≤w1.heap.size:=by have:=f1.size;omega
 clear o1 s1 b1 f1 n1 x1 BA XA RA SA OA M af;go_wp2_with fail
 go_loopw [5] (fun i wr=>∃(k:Nat) (us:Array Value),k≤n∧i=vi k∧OwnRows wr w.heap.size (w.heap.size+1) n us (fun i=>xj F i k)∧jB wr (w.heap.size+1+1) n (qP F).1∧Below w.heap.size w wr∧wr.heap[w.heap.size]?=some (.cells #[.slice ba n bcap,vi vals] 26 (0,0))) (fun i _=>n-(intOf i).toNat)
 case atStart=>exact⟨0,_,Nat.zero_le _,rfl,R1.out,S1.out,B1.out,X1.out⟩
 case round=>
  obtain⟨k,us,hk,rfl,hR,hSe,hB,hX⟩:=hrel;have HR:Hid (OwnRows wr w.heap.size (w.heap.size+1) n us (fun i=>xj F i k)):=hR;have t:Hid (jB wr (w.heap.size+1+1) n (qP F).1):=hSe;have HB:Hid (Below w.heap.size w wr):=hB;have HX:Hid (wr.heap[w.heap.size]?=some (.cells #[.slice ba n bcap,vi vals] 26 (0,0))):=hX;have c0:wr.cell? (Z w.heap.size 0)=some (.slice ba n bcap):=by simp[World.cell?,hX]
  have c1:wr.cell? (Z w.heap.size 1)=some (vi vals):=by simp[World.cell?,hX]
  clear hR hSe hB hX;by_cases ai:(k:Int)<(n:Int)
  ·go_wp2_with fail
   refine(ace _ F k _ (HF.out.later HB.out) HS.out (by rw[HN.out];omega)).mono ?_;rw[HN.out];rintro e w2 ⟨g,L,rfl,hg,sL,hL,b2⟩;have HL:Hid (∀x,x<n→(x∈L↔Rea (succsN F) (· = k) x)):=hL;have SL:Hid (jB w2 g n L):=sL;have R2:Hid (OwnRows w2 w.heap.size (w.heap.size+1) n us (fun i=>xj F i k)):=HR.out.keep b2;have S2:Hid (jB w2 (w.heap.size+1+1) n (qP F).1):=t.out.later b2;have B2:Hid (Below w.heap.size w w2):=Bel.after HB.out b2;have X2:Hid (w2.heap[w.heap.size]?=some (.cells #[.slice ba n bcap,vi vals] 26 (0,0))):=(b2.block _ (aI HX.out).1).trans HX.out;have ah:w.heap.size+1<g:=by have:=t.out.lt;omega
   clear hL sL b2 HR t HB HX c0 c1 hg;go_wp2_with fail
   go_loopw [7] (fun i wr=>∃(j:Nat) (us:Array Value),j≤n∧i=vi j∧OwnRows wr w.heap.size (w.heap.size+1) n us (zS F k j)∧jB wr (w.heap.size+1+1) n (qP F).1∧jB wr g n L∧Below w.heap.size w wr∧wr.heap[w.heap.size]?=some (.cells #[.slice ba n bcap,vi vals] 26 (0,0))) (fun i _=>n-(intOf i).toNat)
   case atStart=>exact⟨0,us,Nat.zero_le _,rfl,R2.out.congr (fun i _=>by simp[zS]),S2.out,SL.out,B2.out,X2.out⟩
   case round=>
    obtain⟨j,vs,hj,rfl,hR,hSe,hSl,hB,hX⟩:=hrel;have HR:Hid (OwnRows wr w.heap.size (w.heap.size+1) n vs (zS F k j)):=hR;have t:Hid (jB wr (w.heap.size+1+1) n (qP F).1):=hSe;have I:Hid (jB wr g n L):=hSl;have HB:Hid (Below w.heap.size w wr):=hB;have HX:Hid (wr.heap[w.heap.size]?=some (.cells #[.slice ba n bcap,vi vals] 26 (0,0))):=hX;have c0:wr.cell? (Z w.heap.size 0)=some (.slice ba n bcap):=by simp[World.cell?,hX]
    have c1:wr.cell? (Z w.heap.size 1)=some (vi vals):=by simp[World.cell?,hX]
    clear hR hSe hSl hB hX;by_cases ac:(j:Int)<(n:Int)
    ·have O:k<n:=by omega
     have r:j<n:=by omega
     obtain⟨x1,H1⟩:∃x,Hid (decide (k∈(qP F).1)=x):=⟨_,rfl⟩;obtain⟨x2,H2⟩:∃x,Hid (decide (j∈(qP F).1)=x):=⟨_,rfl⟩;obtain⟨x3,H3⟩:∃x,Hid (decide (j∈L)=x):=⟨_,rfl⟩;have HD:Hid (domB F k j=(x1 && (x2 && !x3))):=by
      rw[←H1.out,←H2.out,←H3.out];exact ahL (HL.out j r)
     have q1:wr.cell? (Z (w.heap.size+1+1) k)=some (.bool x1):=by rw[←H1.out];exact t.out.cell O
     have q2:wr.cell? (Z (w.heap.size+1+1) j)=some (.bool x2):=by rw[←H2.out];exact t.out.cell r
     have q3:wr.cell? (Z g j)=some (.bool x3):=by rw[←H3.out];exact I.out.cell r
     cases x1 with
     | false=>
      have H:Hid (OwnRows wr w.heap.size (w.heap.size+1) n vs (zS F k (j+1))):=HR.out.congr (fun i _=>Z9 HD.out i);go_wp2_with fail
      go_roundw
      case rel=>exact⟨j+1,vs,by omega,by go_num,H.out,t.out,I.out,HB.out,HX.out⟩
      case measure=>simp[intOf];omega
     | true=>
      cases x2 with
      | false=>
       have H:Hid (OwnRows wr w.heap.size (w.heap.size+1) n vs (zS F k (j+1))):=HR.out.congr (fun i _=>Z9 HD.out i);go_wp2_with fail
       go_roundw
       case rel=>exact⟨j+1,vs,by omega,by go_num,H.out,t.out,I.out,HB.out,HX.out⟩
       case measure=>simp[intOf];omega
      | true=>
       cases x3 with
       | true=>
        have H:Hid (OwnRows wr w.heap.size (w.heap.size+1) n vs (zS F k (j+1))):=HR.out.congr (fun i _=>Z9 HD.out i);go_wp2_with fail
        go_roundw
        case rel=>exact⟨j+1,vs,by omega,by go_num,H.out,t.out,I.out,HB.out,HX.out⟩
        case measure=>simp[intOf];omega
       | false=>
        obtain⟨u,HU⟩:∃u,Hid (vs.getD j (.slice none 0 0)=u):=⟨_,rfl⟩;have q4:wr.cell? (Z (w.heap.size+1) j)=some u:=by rw[←HU.out];exact HR.out.cell r
        have ho:ja wr w.heap.size u (xj F j k):=by
         have:=HR.out.row j r;rw[HU.out] at this;simpa [zS] using this
        have HO:Hid (ja wr w.heap.size u (xj F j k)):=ho;clear ho;have ag:=afl F j k;obtain⟨i0,hi,hz0,hz1,hz2⟩:=info_parts y7;have aj:100≤maxLen:=by decide
        go_wp2_with (at_builtin;refine wpList_append_own_at _ rfl _ _ 30 rfl w.heap.size 3 i0 (vi 0) 1 8 Tryz.underlying30 hi hz0 hz1 hz2 rfl (by decide) _ _ _ rfl (World.ownsRow.alloc HO.out _) (Z wr.heap.size 0) 1 1 [vi (k:Int)] rfl rfl (cell_one_new _ _ _) (by simp[Value.oneCell']) (by omega) (by omega) (by have:=HB.out.size;simp;omega) ?_;intro v' wa B G _ U;obtain⟨g',cap',rfl⟩:=ownsRow_succ B;have V:Hid (ja wa w.heap.size (sq g' 0 ((xj F j k).length+1) cap') (xj F j k ++ [(k:Int)])):=ja.next B;have HG:Hid ((wr.alloc (.cells #[vi (k:Int)] 3)).grownBy wa (vs.getD j (.slice none 0 0)).ownBlock):=(by rw[HU.out];exact G);have ab:=HR.out.grown r HG.out V.out (by rw[HU.out];exact U);obtain⟨p1,p2,hrr⟩:=ab;rw[HU.out] at p1;have X:Hid (OwnRows (wa.setCell (Z (w.heap.size+1) j) (sq g' 0 ((xj F j k).length+1) cap')) w.heap.size (w.heap.size+1) n _ _):=hrr;clear B G U hrr)
        have J:∀i,(if i=j then xj F j k ++ [(k:Int)] else zS F k j i)=zS F k (j+1) i:=fun i=>by
         have h:=ahK (show domB F k j=true from HD.out) i;have e:zS F k j j=xj F j k:=by simp[zS]
         rw[e] at h;exact h
        have K:Hid (∀i,(if i=j then xj F j k ++ [(k:Int)] else zS F k j i)=zS F k (j+1) i):=J;clear J;go_roundw
        case rel=>exact⟨j+1,_,by omega,by go_num,X.out.congr (fun i _=>K.out i),HR.out.other r HG.out t.out (by decide) (by omega) _,HR.out.other r HG.out I.out (by decide) (by omega) _,(HB.out.trans ((HR.out.row j r).grown HB.out.size HG.out)).setCell (p:=(Z (w.heap.size+1) j)) (by show w.heap.size≤w.heap.size+1;omega) _,HR.out.other r HG.out HX.out (by decide) (by omega) _⟩
        case measure=>simp[intOf];omega
    ·have r:j=n:=by omega
     subst r;go_wp2_with fail
     go_roundw
     case rel=>exact⟨k+1,vs,by omega,by go_num,HR.out.congr (fun i hi=>by simp[zS,hi]),t.out,HB.out,HX.out⟩
     case measure=>simp[intOf];omega
  ·have O:k=n:=by omega
   subst O;go_wp2_with fail
   go_ret;refine⟨_,us,rfl,HR.out.congr (fun i _=>?_),HB.out⟩;unfold KL;rw[HN.out]
end Go.Proofs.YtkbhbekfniadhaaGreat
