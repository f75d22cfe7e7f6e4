/- Sequence, of the model: its loops. -/
import Derived.Test.YtkbhbekfniadhaaGreatTkK
import Derived.Test.YtkbhbekfniadhaaGreatTk0
import Derived.Test.YtkbhbekfniadhaaGreatKMv
set_option maxRecDepth 100000
set_option maxHeartbeats 8000000
namespace Go.Proofs.YtkbhbekfniadhaaGreat
open Go.ChangeShapes Go.WideShapes Go.ChangeAt Go.RowKit
set_option linter.unusedVariables false
def lenOfW : Value→Nat
 | .slice _ k _=>k
 | _=>0
theorem Z5 (w:World)(a b:Value)(T:TypeId):∀j u,[a,b][j]?=some u→(w.alloc (.cells #[a,b] T)).cell? (((Z w.heap.size 0):Addr).add j)=some u:=fun j u hu=>by
 rw[yE,Nat.zero_add,World.cell?_alloc_new];rcases j with _ | _ | j
 ·simpa using hu
 ·simpa using hu
 ·simp at hu
theorem jd.form {w:World}{lo:Nat}{v:Value}{l:List jy}(h:jd w lo v l){k:Nat}(hk:l.length=k):∃a c,v=.slice a k c:=by
 obtain⟨a,c,e,_⟩:=h.row;exact⟨a,c,by rw[e,hk]⟩
def Xk (u v:Value):Prop := ∀b,u.ownBlock=some b→v.ownBlock=some b→False
theorem Xk.grown {u v v':Value}{s:Nat}(h:Xk u v)(ho:v'.ownBlock=v.ownBlock∨v'.ownBlock=some s)(hu:∀b,u.ownBlock=some b→b<s):Xk u v':=fun b h1 h2=>by
 rcases ho with h3 | h3
 ·exact h b h1 (by rw[←h3];exact h2)
 ·rw[h3] at h2;have:=hu b h1;simp at h2;omega
theorem aef {g n c b s:Nat}(h:(sq g 0 n c).ownBlock=some b)(hs:g<s):b<s:=by
 have:g=b:=by simpa [Value.ownBlock] using h
 omega
theorem jd.aside {w w':World}{lo:Nat}{u v:Value}{l:List jy}(h:jd w lo u l)(hg:w.grownBy w' v.ownBlock)(ha:Xk u v):jd w' lo u l:=by
 refine World.ownsRow.kept h hg ?_;cases hb:u.ownBlock with
 | none=>exact .inl rfl
 | some b=>exact .inr (fun e=>ha b hb e.symm)
theorem aeg {n:Int}{left o:List jy}{i:Nat}{x:jy}(hf:yb left=some i)(hx:left[i]?=some x):seqStep n (left,o)=(left.eraseIdx i,o ++ [x]):=by
 cases left with
 | nil=>simp at hx
 | cons y r=>
  unfold seqStep;dsimp only;rw[hf];dsimp only;rw[List.getD_eq_getElem?_getD,hx]
  rfl
theorem afZ {n:Int}{y:jy}{r o:List jy}(hf:yb (y::r)=none):seqStep n (y::r,o)=((y::r).map (xO n y.fr),o ++ [⟨n,y.fr⟩]):=by
 unfold seqStep;dsimp only;rw[hf]
theorem Qs {n:Int}{left o:List jy}(h:qV n left)(hne:left≠[]):JX (seqStep n (left,o)).1<JX left:=by
 cases left with
 | nil=>exact absurd rfl hne
 | cons x r=>exact Qr h
theorem jd.cellAt {w:World}{lo g n cap:Nat}{l:List jy}(h:jd w lo (sq g 0 n cap) l){i:Nat}{x:jy}(hx:l[i]?=some x):qq w g (i*2) x:=by
 obtain⟨a,c,e,hc⟩:=h.row;have hi:=(List.getElem?_eq_some_iff.1 hx).1;obtain⟨g',e2,_,_,h1,_⟩:=hc (by omega);subst e2;simp at e;obtain⟨rfl,_,_⟩:=e;exact h1 i x hx
theorem ahC (l:List jy){j:Nat}{u:Value}(hu:(moveC l)[j]?=some u):∃x,l[j / 2]?=some x∧u=if j % 2=0 then vi x.fr else vi x.v:=by
 have hj:=(List.getElem?_eq_some_iff.1 hu).1;rw[Xi] at hj;obtain⟨x,hx⟩:∃x,l[j / 2]?=some x:=⟨_,List.getElem?_eq_getElem (by omega)⟩;obtain⟨m0,m1⟩:=ae6 l hx;refine⟨x,hx,?_⟩;rcases Nat.mod_two_eq_zero_or_one j with h | h
 ·rw[show j / 2*2=j by omega,hu] at m0;rw[if_pos h];simpa using m0
 ·rw[show j / 2*2+1=j by omega,hu] at m1;rw[if_neg (by omega)];simpa using m1
theorem abw {w:World}{g off:Nat}{l:List jy}(h:∀i x,l[i]?=some x→qq w g (off+i*2) x):∀j u,(moveC l)[j]?=some u→w.cell? (((Z g off):Addr).add j)=some u:=fun j u hu=>by
 rw[yE];obtain⟨x,hx,e⟩:=ahC l hu;obtain⟨c0,c1⟩:=h _ _ hx;rcases Nat.mod_two_eq_zero_or_one j with h | h
 ·rw[if_pos h] at e;rw[e,←c0]
  congr 2
  omega
 ·rw[if_neg (by omega)] at e;rw[e,←c1]
  congr 2
  omega
theorem adr {l:List jy}:∀u∈moveC l,u.oneCell'=true:=by
 induction l with
 | nil=>simp[moveC]
 | cons x l ih=>
  intro u hu;simp[moveC] at hu;rcases hu with rfl|rfl|hu
  ·simp[Value.oneCell']
  ·simp[Value.oneCell']
  ·exact ih u hu
theorem jd.setS {w:World}{lo g n cap:Nat}{l:List jy}(h:jd w lo (sq g 0 n cap) l){i:Nat}{x:jy}(hx:l[i]?=some x)(z:Int):jd (w.setCell (Z g (i*2+1)) (vi z)) lo (sq g 0 n cap) (l.set i ⟨x.fr,z⟩):=by
 have hi:=(List.getElem?_eq_some_iff.1 hx).1;rcases h with ⟨r,h⟩;rcases h with ⟨h0,_⟩ | ⟨g',cap',cur,h0,hlo,hg,h1,h2,h3,h4⟩
 ·cases h0
 ·cases h0
  refine⟨by rw[Xi],.inr ⟨g,cap,cur.setIfInBounds (i*2+1) (vi z),by simp,hlo,heap_setCell_same _ _ _ _ _ _ hg,by simpa using h1,by simpa using h2,by simpa using h3,?_⟩⟩;have e:(cur.setIfInBounds (i*2+1) (vi z)).toList=cur.toList.set (i*2+1) (vi z):=by simp
  rw[e,List.length_set,List.take_set,h4];clear e h4 h3 h2 h1 hg r
  revert i x
  induction l with
  | nil=>intro i x hx;simp at hx
  | cons y l ih=>
   intro i x hx hi;cases i with
   | zero=>
    simp at hx;subst hx
    rfl
   | succ i=>
    simp at hx hi;have:=ih hx hi;rw[show(i+1)*2+1=i*2+1+1+1 by omega];simp only[moveC,sS];rw[this]
theorem aeh {l:List jy}{i k:Nat}{x:jy}(h:(l.take i)[k]?=some x):l[k]?=some x:=by
 rw[List.getElem?_take] at h;split at h
 ·exact h
 ·cases h
def xI (L:List jy)(n d:Int)(j:Nat):List jy:=(L.take j).map (xO n d) ++ L.drop j
theorem aei {L:List jy}{j:Nat}{x:jy}(h:L[j]?=some x):L.drop j=x::L.drop (j+1):=by
 obtain⟨hj,e⟩:=List.getElem?_eq_some_iff.1 h;rw[List.drop_eq_getElem_cons hj,e]
theorem af0 {L:List jy}{n d:Int}{j:Nat}{x:jy}(h:L[j]?=some x):(xI L n d j)[j]?=some x:=by
 have hj:=(List.getElem?_eq_some_iff.1 h).1;unfold xI;rw[List.getElem?_append_right (by simp;omega),aei h];simp[List.length_take,Nat.min_eq_left (Nat.le_of_lt hj)]
theorem aej {L:List jy}{n d:Int}{j:Nat}{x:jy}(h:L[j]?=some x)(hx:x.v=d):(xI L n d j).set j ⟨x.fr,n⟩=xI L n d (j+1):=by
 have hj:=(List.getElem?_eq_some_iff.1 h).1;have hl:((L.take j).map (xO n d)).length=j:=by simp;omega
 unfold xI;rw[yW h,aei h,List.set_append_right _ _ (by omega),hl,List.map_append];simp[xO,hx]
theorem ads {L:List jy}{n d:Int}{j:Nat}{x:jy}(h:L[j]?=some x)(hx:¬x.v=d):xI L n d j=xI L n d (j+1):=by
 unfold xI;rw[yW h,aei h,List.map_append];simp[xO,hx]
theorem aek {L:List jy}{n d:Int}{j:Nat}(h:L.length≤j):xI L n d j=L.map (xO n d):=by
 unfold xI;rw[List.take_of_length_le h,List.drop_eq_nil_of_le h,List.append_nil]
theorem jd.apartSet {w:World}{lo:Nat}{v:Value}{l:List jy}(h:jd w lo v l){g d:Nat}(hg:v.ownBlock≠some g)(x:Value):jd (w.setCell (Z g d) x) lo v l:=by
 obtain⟨h0,h1⟩:=h;refine⟨h0,?_⟩;rcases h1 with h1 | ⟨g',cap,cur,rfl,hlo,hh,h2⟩
 ·exact .inl h1
 ·refine .inr ⟨g',cap,cur,rfl,hlo,?_,h2⟩;rw[heap_setCell_other _ _ _ _ (fun e=>hg (by simp[Value.ownBlock];exact e))];exact hh
section
variable {P:Program}
theorem XX {o:Oper}{a:Act}{s x:Operand}{t:TypeId}{va vb v':Value}{w w':World}(ho:o.op=.call { callee:=.builtin .append,args := #[s,x],argTypes := #[t,t] })(hs:a.eval s=va)(hx:a.eval x=vb)
  (hrun:(Builtin.append_ #[t,t] o.type #[va,vb]).run P w=.ok v' w'):(execOp a.eval o).run P w=.ok (.value v') w':=by
 simp[execOp,ho,resolve,invoke,builtin,hs,hx,hrun,Result.andThen]
end
theorem abx : Tryz.prog.elem 158=162:=by kernel_rfl
theorem af1 (g q cap i:Nat)(hi:i≤cap)(w:World):(Instr.sliceAt 158 (sq g 0 q cap) none (some (vi (i:Int))) none).run Tryz.prog w=.ok (sq g 0 i cap) w:=by
 have ht:Tryz.prog.underlying 158=some (.slice (Tryz.prog.elem 158)):=by rw[abx];exact Tryz.underlying158
 rw[run_sliceAt_slice _ _ _ _ _ _ ht,run_slice_any _ _ _ _ _ ht];have h1:(0:Int)≤(i:Int):=by omega
 have h2:(i:Int)≤(cap:Int):=by omega
 simp[Instr.sliceBounds,go_sem,h2,Result.andThen]
theorem af2 (g q cap i:Nat)(hi:i≤q)(hq:q≤cap)(w:World):(Instr.sliceAt 158 (sq g 0 q cap) (some (vi (i:Int))) none none).run Tryz.prog w=.ok (.slice (if cap=i then some (Z g 0) else some (Z g (i*2))) (q-i) (cap-i)) w:=by
 have ht:Tryz.prog.underlying 158=some (.slice (Tryz.prog.elem 158)):=by rw[abx];exact Tryz.underlying158
 rw[run_sliceAt_slice _ _ _ _ _ _ ht,run_slice_any _ _ _ _ _ ht];have h1:(0:Int)≤(i:Int):=by omega
 have h2:(i:Int)≤(q:Int):=by omega
 simp[Instr.sliceBounds,go_sem,h2,Result.andThen]
theorem aaV (v:Value)(l:List jy)(n:Int)(w:World)(ha:ab5 w v l)(hok:zi l n=true) :
  Calls Tryz.prog 109 #[v,vi n] w fun e w'=>abt w (ab6 n l) e w':=by
 have HR:Hid (zi l n=true):=hok;obtain⟨a,cap,rfl,hm,hc⟩:=ha;obtain⟨m,HM⟩:∃m,Hid (l.length=m):=⟨_,rfl⟩;obtain⟨L,HL⟩:∃L,Hid (ab6 n l=L):=⟨_,rfl⟩;rw[HM.out] at hm hc ⊢;rw[HL.out];have HC:Hid (0<m→∃b off,a=some (Z b off)∧0≤b∧∀i x,l[i]?=some x→qq w b (off+i*2) x):=hc;have bb:m≤24:=by have:=ZV hok;have:=HM.out;omega
 clear hc hok;obtain⟨i0,hi,hz0,hz1,hz2⟩:=info_parts adl;have bf:20000≤maxLen:=by decide
 go_enter Tryz.func109,Tryz.ntmps109
 go_wp2_with fail
 obtain⟨w1,hw1⟩:∃W,w.alloc (.cells #[] 162)=W:=⟨_,rfl⟩;have B1:Hid (Below w.heap.size w w1):=by show Below _ _ _;rw[←hw1];repeat (first | exact Below.refl _ _ | apply Below.drew | refine Below.alloc ?_ (by simp <;> omega) _ | refine Below.setCell ?_ (by simp <;> omega) _)
 have O1:Hid (jd w1 w.heap.size (sq w.heap.size 0 0 0) []):=by show jd _ _ _ _;rw[←hw1];exact Ks (w:=w) (World.alloc_heap_new w _) (Nat.le_refl _)
 rw[hw1];clear hw1;go_loopw [5,6] (fun s i wr=>∃k:Nat,k≤m∧i=vi k∧jd wr w.heap.size s (j7 (l.take k))∧s≠.slice none 0 0∧Below w.heap.size w wr) (fun _ i _=>m-(intOf i).toNat)
 case atStart=>exact⟨0,Nat.zero_le _,rfl,by simpa [j7] using O1.out,by simp,B1.out⟩
 case round=>
  obtain⟨k,hk,rfl,ho,hnn,hB⟩:=hrel;have HO:Hid (jd wr w.heap.size u5 (j7 (l.take k))):=ho;have ar:Hid (u5≠.slice none 0 0):=hnn;have HB:Hid (Below w.heap.size w wr):=hB;have V:Hid ((j7 (l.take k)).length≤24):=by
   have h1:(j7 (l.take k)).length≤(l.take k).length:=List.length_filter_le _ _;rw[List.length_take] at h1;show _≤_;omega
  clear ho hnn hB;by_cases be:(k:Int)<(m:Int)
  ·obtain⟨b,off,rfl,_,hc1⟩:=HC.out (by omega);have aL:k<l.length:=by have:=HM.out;omega
   obtain⟨x,HX⟩:∃x,Hid (l[k]?=some x):=⟨l[k],List.getElem?_eq_getElem aL⟩;obtain⟨c0,c1⟩:=(hc1 k x HX.out).keep (kM.jK HB.out 0) (Nat.zero_le _);have hsz:=HB.out.size;clear hc1 aL;obtain⟨d,s⟩:=x;dsimp only at c0 c1;by_cases hs:d=s
   ·have ay:(d != s)=false:=by simp[hs]
    have HS:Hid (d=s):=hs;clear hs;go_wp2_with fail
    go_quiet (fail)
    go_wp2_with fail
    go_roundw
    case rel=>
     refine⟨k+1,by omega,by go_num,?_,ar.out,Bel.drewN HB.out _⟩;have e:j7 (l.take (k+1))=j7 (l.take k):=by rw[yW HX.out];unfold j7;rw[List.filter_append];simp[HS.out]
     rw[e];exact HO.out
    case measure=>simp[intOf];omega
   ·have ay:(d != s)=true:=by simpa using hs
    have HS:Hid (¬d=s):=hs;clear hs;go_wp2_with fail
    go_quiet (fail)
    simp only[Exit.then]
    go_at_K
    obtain⟨wd,hwd⟩:∃W,wr.drewN nq=W:=⟨_,rfl⟩;have aF:Hid (Below w.heap.size w wd):=by show Below _ _ _;rw[←hwd];exact Bel.drewN HB.out _
    have aH:Hid (jd wd w.heap.size u5 (j7 (l.take k))):=by show jd _ _ _ _;rw[←hwd];exact HO.out
    have d0:wd.cell? (Z b (off+k*2))=some (vi d):=by rw[←hwd];exact c0
    have d1:wd.cell? (Z b (off+k*2+1))=some (vi s):=by rw[←hwd];exact c1
    have aB:=aF.out.size;rw[hwd];clear hwd c0 c1;go_wp2_with (at_builtin;refine wpList_append_own _ rfl _ _ 158 rfl w.heap.size 162 i0 (.agg #[vi 0,vi 0]) 2 16 Tryz.underlying158 hi hz0 hz1 hz2 rfl (by decide) _ (j7 (l.take k)).length (moveC (j7 (l.take k))) rfl (World.ownsRow.alloc aH.out _) (Z wd.heap.size 0) 1 1 [vi d,vi s] rfl rfl (Z5 wd _ _ _) (by simp[Value.oneCell']) (by have:=V.out;omega) (by have:=V.out;omega) (by simp;omega) ?_;intro v' wa G B I;have O:Hid (jd wa w.heap.size v' (j7 (l.take k) ++ [⟨d,s⟩])):=jd.next G;have HG:Hid (Below w.heap.size (wd.alloc _) wa):=xg (World.ownsRow.alloc aH.out _) (by simp;omega) B;have aQ:Hid (v'≠.slice none 0 0):=(fun h=>absurd (I.1 h).2 (by omega));clear G B I)
    go_roundw
    case rel=>
     refine⟨k+1,by omega,by go_num,?_,aQ.out,(aF.out.alloc aB _).trans HG.out⟩;have e:j7 (l.take (k+1))=j7 (l.take k) ++ [⟨d,s⟩]:=by rw[yW HX.out];unfold j7;rw[List.filter_append];simp[HS.out]
     rw[e];exact O.out
    case measure=>simp[intOf];omega
  ·have a5:k=m:=by omega
   subst a5;have aG:Hid (j7 (l.take k)=j7 l):=by show _=_;rw[List.take_of_length_le (by have:=HM.out;omega)]
   rw[aG.out] at HO V;go_wp2_with fail
   obtain⟨w3,hw3⟩:∃W,wr.alloc (.cells #[] 162)=W:=⟨_,rfl⟩;have B3:Hid (Below w.heap.size w w3):=by show Below _ _ _;rw[←hw3];exact HB.out.alloc HB.out.size _
   have O3:Hid (jd w3 w.heap.size (sq wr.heap.size 0 0 0) []):=by show jd _ _ _ _;rw[←hw3];exact Ks (w:=w) (World.alloc_heap_new wr _) HB.out.size
   have P3:Hid (jd w3 w.heap.size u5 (j7 l)):=by show jd _ _ _ _;rw[←hw3];exact World.ownsRow.alloc HO.out _
   have A3:Hid (Xk u5 (sq wr.heap.size 0 0 0)):=fun b h1 h2=>by
    have:=(HO.out.lt b h1).2;simp[Value.ownBlock] at h2;omega
   rw[hw3];clear hw3;go_loopw [5,7] (fun s t wr=>∃(left o:List jy) (j:Nat),seqN n j (j7 l,[])=(left,o)∧o.length=j∧j+JX left≤48∧left.length≤24∧jd wr w.heap.size s left∧s≠.slice none 0 0∧jd wr w.heap.size t o∧Xk s t∧Below w.heap.size w wr)
    (fun _ t _=>48-lenOfW t)
   case atStart=>
    refine⟨j7 l,[],0,rfl,rfl,?_,V.out,P3.out,ar.out,O3.out,A3.out,B3.out⟩;have:=V.out;unfold JX;omega
   case round=>
    obtain⟨left,o,j,hj,hol,hsl,hll,hos,hnn,hot,hap,hB9⟩:=hrel;have HJ:Hid (seqN n j (j7 l,[])=(left,o)):=hj;have J:Hid (o.length=j):=hol;have aw:Hid (j+JX left≤48):=hsl;have ap:Hid (left.length≤24):=hll;have an:Hid (Xk u5 u7):=hap;have aE:Hid (Below w.heap.size w wr):=hB9;have aj:Hid (jd wr w.heap.size u5 left):=hos;have au:Hid (jd wr w.heap.size u7 o):=hot;have ah:Hid (qV n left):=by
     have:=qV.seqN (n:=n) j (s:=(j7 l,[])) (qV.init HR.out);rw[hj] at this;exact this
    obtain⟨q,HQ⟩:∃q,Hid (left.length=q):=⟨_,rfl⟩;clear hj hol hsl hll hos hot hap hB9 HO ar HB V aG B3 O3 P3 A3 B1 O1 HC;by_cases hq:(q:Int) > 0
    ·have ai:Hid (left≠[]):=fun e=>by have:=HQ.out;rw[e] at this;simp at this;omega
     have a4:j+1≤48:=by
      have h1:=Qs (o:=o) ah.out ai.out;have:=aw.out;omega
     obtain⟨g,gcap,hu5⟩:∃g gcap,u5=sq g 0 q gcap:=by
      rcases aj.out.2 with ⟨h0,_⟩ | ⟨g,cap,cur,h0,_⟩
      ·exact absurd h0 hnn
      ·exact⟨g,cap,by rw[h0,HQ.out]⟩
     subst hu5;obtain⟨ta,tcap,rfl⟩:=au.out.form J.out;have a8:q≤24:=by have:=ap.out;have:=HQ.out;omega
     clear hnn;obtain⟨R,HRR⟩:∃R,Hid (aee left=R):=⟨_,rfl⟩;go_wp2_with fail
     refine(afY _ left _ aj.out.at ah.out.ne).mono ?_;rw[HRR.out];rintro e w4 ⟨rfl,b4⟩;have H:Hid (jd w4 w.heap.size (sq g 0 q gcap) left):=aj.out.keep b4;have M:Hid (jd w4 w.heap.size (.slice ta j tcap) o):=au.out.keep b4;have B4:Hid (Below w.heap.size w w4):=Bel.after aE.out b4;have ae:=B4.out.size;clear b4;obtain⟨az,hglt⟩:w.heap.size≤g∧g<w4.heap.size:=H.out.lt g rfl;cases aa:yb left with
     | none=>
      have ag:Hid (yb left=none):=aa;obtain rfl:(-1:Int)=R:=by rw[←HRR.out];unfold aee;rw[aa]
      clear aa HRR;obtain⟨x,r,hleft⟩:∃x r,left=x::r:=by
       cases left with
       | nil=>exact absurd rfl ai.out
       | cons x r=>exact⟨x,r,rfl⟩
      have aP:Hid (left=x::r):=hleft;have c0:=(H.out.cellAt (i:=0) (x:=x) (by rw[hleft];rfl)).1;rw[Nat.zero_mul] at c0;clear hleft;obtain⟨d,HD⟩:∃d,Hid (x.fr=d):=⟨_,rfl⟩;rw[HD.out] at c0;have aA:(-1:Int)<0:=by omega
      go_wp2_with (at_builtin;refine wpList_append_own_at _ rfl _ _ 158 rfl w.heap.size 162 i0 (.agg #[vi 0,vi 0]) 2 16 Tryz.underlying158 hi hz0 hz1 hz2 rfl (by decide) _ o.length (moveC o) rfl (World.ownsRow.alloc M.out _) (Z w4.heap.size 0) 1 1 [vi n,vi d] rfl rfl (Z5 w4 _ _ _) (by simp[Value.oneCell']) (by have:=J.out;omega) (by have:=J.out;omega) (by simp;omega) ?_;intro v' wa G B I ak;have O:Hid (jd wa w.heap.size v' (o ++ [⟨n,d⟩])):=jd.next G;have HG:Hid (Below w.heap.size (w4.alloc _) wa):=xg (World.ownsRow.alloc M.out _) (by simp;omega) B;have K:Hid (jd wa w.heap.size (sq g 0 q gcap) left):=jd.aside (World.ownsRow.alloc H.out _) B an.out;have ab:Hid (Xk (sq g 0 q gcap) v'):=Xk.grown (v:=.slice ta j tcap) an.out ak (fun b h=>aef h (by simp;omega));clear G B I ak;obtain⟨af,vc',rfl⟩:=O.out.form (k:=j+1) (by have:=J.out;simp;omega))
      have BA:Hid (Below w.heap.size w wa):=(B4.out.alloc ae _).trans HG.out;go_loopw [10] (fun i wr=>∃k:Nat,k≤q∧i=vi k∧jd wr w.heap.size (sq g 0 q gcap) (xI left n d k)∧jd wr w.heap.size (.slice af (j+1) vc') (o ++ [⟨n,d⟩])∧Below w.heap.size w wr) (fun i _=>q-(intOf i).toNat)
      case atStart=>exact⟨0,Nat.zero_le _,rfl,by simpa [xI] using K.out,O.out,BA.out⟩
      case round=>
       obtain⟨k2,hk2,rfl,hs2,ht2,hB2⟩:=hrel;have X:Hid (jd wr w.heap.size (sq g 0 q gcap) (xI left n d k2)):=hs2;have ax:Hid (jd wr w.heap.size (.slice af (j+1) vc') (o ++ [⟨n,d⟩])):=ht2;have ao:Hid (Below w.heap.size w wr):=hB2;clear hs2 ht2 hB2;by_cases a7:(k2:Int)<(q:Int)
       ·obtain⟨y,HY⟩:∃y,Hid (left[k2]?=some y):=⟨_,List.getElem?_eq_getElem (by have:=HQ.out;omega)⟩;have aD:=af0 (n:=n) (d:=d) HY.out;obtain⟨c2,c3⟩:=X.out.cellAt aD;have fz:=J2 X.out.ags (k2*2+1);have aW:Hid ((xI left n d k2)[k2]?=some y):=aD;clear aD;obtain⟨yd,ys⟩:=y;dsimp only at c2 c3;by_cases hs:ys=d
        ·subst hs;have ay:(ys == ys)=true:=by simp
         go_wp2_with fail
         go_roundw
         case rel=>
          refine⟨k2+1,by omega,by go_num,?_,ax.out.apartSet (fun e=>ab.out g rfl e) _,ao.out.setCell (p:=(Z g (k2*2+1))) az _⟩;have h9:=X.out.setS aW.out n;rw[aej HY.out rfl] at h9;exact h9
         case measure=>simp[intOf];omega
        ·have ay:(ys == d)=false:=by simpa using hs
         have aX:Hid (¬ys=d):=hs;clear hs;go_wp2_with fail
         go_roundw
         case rel=>
          refine⟨k2+1,by omega,by go_num,?_,ax.out,ao.out⟩;rw[←ads HY.out aX.out];exact X.out
         case measure=>simp[intOf];omega
       ·have a6:k2=q:=by omega
        subst a6;have ac:Hid (seqStep n (left,o)=(left.map (xO n d),o ++ [⟨n,d⟩])):=by
         show _=_;have h9:=ag.out;rw[aP.out] at h9 ⊢;rw[afZ h9,HD.out]
        have aV:Hid (xI left n d k2=left.map (xO n d)):=aek (by have:=HQ.out;omega);rw[aV.out] at X;go_wp2_with fail
        go_roundw
        case rel=>
         refine⟨left.map (xO n d),o ++ [⟨n,d⟩],j+1,by rw[ZW,HJ.out,ac.out],by have:=J.out;simp;omega,?_,by rw[List.length_map];exact ap.out,X.out,by simp,ax.out,ab.out,ao.out⟩;have h1:=Qs (o:=o) ah.out ai.out;rw[ac.out] at h1;have:=aw.out;dsimp only at h1;omega
        case measure=>simp[lenOfW];omega
     | some i=>
      have ag:Hid (yb left=some i):=aa;obtain rfl:(i:Int)=R:=by rw[←HRR.out];unfold aee;rw[aa]
      clear aa HRR;obtain⟨x,hx,_,_⟩:=ZX ag.out;have HX:Hid (left[i]?=some x):=hx;have bd:i<q:=by have:=(List.getElem?_eq_some_iff.1 hx).1;have:=HQ.out;omega
      obtain⟨c0,c1⟩:=H.out.cellAt hx;clear hx;obtain⟨d,s⟩:=x;dsimp only at c0 c1;have aA:¬(i:Int)<0:=by omega
      have bc:q≤gcap∧gcap≤maxLen:=by
       rcases H.out.2 with ⟨h0,_⟩ | ⟨g2,cap2,cur2,h0,_,_,h5,h6,_⟩
       ·cases h0
       ·cases h0;exact⟨by have:=HQ.out;omega,h6⟩
      go_wp2_with (at_builtin;refine wpList_append_own_at _ rfl _ _ 158 rfl w.heap.size 162 i0 (.agg #[vi 0,vi 0]) 2 16 Tryz.underlying158 hi hz0 hz1 hz2 rfl (by decide) _ o.length (moveC o) rfl (World.ownsRow.alloc M.out _) (Z w4.heap.size 0) 1 1 [vi d,vi s] rfl rfl (Z5 w4 _ _ _) (by simp[Value.oneCell']) (by have:=J.out;omega) (by have:=J.out;omega) (by simp;omega) ?_;intro v' wa G B I ak;have O:Hid (jd wa w.heap.size v' (o ++ [⟨d,s⟩])):=jd.next G;have HG:Hid (Below w.heap.size (w4.alloc _) wa):=xg (World.ownsRow.alloc M.out _) (by simp;omega) B;have K:Hid (jd wa w.heap.size (sq g 0 q gcap) left):=jd.aside (World.ownsRow.alloc H.out _) B an.out;clear G B I ak;obtain⟨af,vc',rfl⟩:=O.out.form (k:=j+1) (by have:=J.out;simp;omega))
      have BA:Hid (Below w.heap.size w wa):=(B4.out.alloc ae _).trans HG.out;have aY:Hid (∀b,(Value.slice af (j+1) vc').ownBlock=some b→b<wa.heap.size):=fun b hb=>(O.out.lt b hb).2
      clear c0 c1;refine KH (wp_region_held_drew (S:=fun _=>True) (by kernel_rfl) trivial (fun hHeld=>?_));have BD:Below wa.heap.size wa wa.drew:=(Below.refl _ _).drew;generalize wa.drew=wD at BD ⊢;have aZ:=af1 g q gcap i (by omega);have am:=af2 g q gcap (i+1) (by omega) (by omega);rw[show(((i+1:Nat)):Int)=(i:Int)+1 by omega] at am;obtain⟨A,HA⟩:∃A:Option Addr,Hid ((if gcap=i+1 then some (Z g 0) else some (Z g ((i+1)*2)))=A):=⟨_,rfl⟩;rw[HA.out] at am;obtain⟨tl,HTL⟩:∃tl,Hid (q-(i+1)=tl):=⟨_,rfl⟩;obtain⟨tc,HTC⟩:∃tc,Hid (gcap-(i+1)=tc):=⟨_,rfl⟩;rw[HTL.out,HTC.out] at am;have a9:IntKind.i64.wrap ((i:Int)+1)=(i:Int)+1:=by simp[IntKind.wrap,IntKind.bits,IntKind.signed];omega
      refine tkA 1 ⟨some 80,.move (.tmp 5),158,"l09_move.go:76",#[],none⟩ ?_ (fun w h=>?_) ?_;rotate_left
      ·(try dsimp only at h);go_simp;(try with_reducible rfl)
      try simp only[Act.put,sT,sZ,sS]
      refine tkA 2 ⟨some 81,.move (.tmp 8),3,"l09_move.go:76",#[],none⟩ ?_ (fun w h=>?_) ?_;rotate_left
      ·(try dsimp only at h);go_simp;(try with_reducible rfl)
      try simp only[Act.put,sT,sZ,sS]
      refine tkA 3 ⟨some 82,.slice 158 (.tmp 80) none (some (.tmp 81)) none,158,"l09_move.go:76",#[⟨1,.data⟩,⟨2,.data⟩],none⟩ ?_ (fun w h=>?_) ?_;rotate_left
      ·(try dsimp only at h);go_simp;(try with_reducible rfl)
      try simp only[Act.put,sT,sZ,sS]
      refine tkA 5 ⟨some 84,.move (.tmp 5),158,"l09_move.go:76",#[],none⟩ ?_ (fun w h=>?_) ?_;rotate_left
      ·(try dsimp only at h);go_simp;(try with_reducible rfl)
      try simp only[Act.put,sT,sZ,sS]
      refine tkA 6 ⟨some 85,.move (.tmp 8),3,"l09_move.go:76",#[],none⟩ ?_ (fun w h=>?_) ?_;rotate_left
      ·(try dsimp only at h);go_simp;(try with_reducible rfl)
      try simp only[Act.put,sT,sZ,sS]
      refine tkA 7 ⟨some 86,.binOp .add 3 (.tmp 85) (.const (vi 1)) 3,3,"l09_move.go:76",#[⟨6,.data⟩],none⟩ ?_ (fun w h=>?_) ?_;rotate_left
      ·(try dsimp only at h);go_simp;(try with_reducible rfl)
      try simp only[Act.put,sT,sZ,sS]
      refine tkA 8 ⟨some 87,.slice 158 (.tmp 84) (some (.tmp 86)) none none,158,"l09_move.go:76",#[⟨5,.data⟩,⟨7,.data⟩],none⟩ ?_ (fun w h=>?_) ?_;rotate_left
      ·(try dsimp only at h);go_simp;(try with_reducible rfl)
      try simp only[Act.put,sT,sZ,sS]
      clear aZ am a9;refine jg (i:=0) (o:=⟨some 79,.buildSlice 158 0 #[],158,"l09_move.go:76",#[],none⟩) rfl rfl (by kernel_rfl) (fun K9 U=>?_);refine jC (v:=sq wD.heap.size 0 0 0) (w':=wD.alloc (.cells #[] 162)) (by simp[execOp,Instr.buildSlice,go_sem]) (U _ _ ⟨trivial,?_⟩);try simp only[Act.put,sT,sZ,sS]
      clear U;obtain⟨wE,hwE⟩:∃W,wD.alloc (.cells #[] 162)=W:=⟨_,rfl⟩;have BE:Below wa.heap.size wa wE:=by rw[←hwE];exact Bel.after BD (Bel.alloc _ _)
      have OE:Hid (jd wE wa.heap.size (sq wD.heap.size 0 0 0) []):=by show jd _ _ _ _;rw[←hwE];exact Ks (w:=w) (World.alloc_heap_new wD _) BD.size
      rw[hwE];clear hwE;have aT:Hid (jd wE w.heap.size (sq g 0 q gcap) left):=K.out.keep BE;have aK:=BE.size;refine jg (i:=4) (o:=⟨some 83,.call ⟨.builtin .append,#[.tmp 79,.tmp 82],#[158,158]⟩,158,"l09_move.go:76",#[⟨0,.data⟩,⟨3,.data⟩],none⟩) rfl rfl (by kernel_rfl) (fun K9 U=>?_);obtain⟨v1,w5,hrun1,ho1,hg1,hn1,hb1⟩:=run_append_own_at (P:=Tryz.prog) wE wa.heap.size 158 158 162 i0 (.agg #[vi 0,vi 0]) 2 16 Tryz.underlying158 hi hz0 hz1 hz2 rfl (by decide) (sq wD.heap.size 0 0 0) 0 [] OE.out (Z g 0) i gcap (moveC (left.take i)) (by rw[Xi,List.length_take];have:=HQ.out;omega) (abw (fun k x hx=>by rw[Nat.zero_add];exact aT.out.cellAt (aeh hx))) adr (by omega) (by omega) aK;refine jC (XX rfl rfl rfl hrun1) (U _ _ ⟨trivial,?_⟩);try simp only[Act.put,sT,sZ,sS]
      clear U hrun1;have O5:Hid (jd w5 wa.heap.size v1 (left.take i)):=by
       have h9:=ho1;rw[List.nil_append,Nat.zero_add] at h9;have e:(left.take i).length=i:=by rw[List.length_take];have:=HQ.out;omega
       show World.ownsRow _ _ _ _ _ _ _;rw[e];exact h9
      have B5:Hid (Below wa.heap.size wa w5):=BE.trans (xg OE.out aK hg1);have aS:Hid (jd w5 w.heap.size (sq g 0 q gcap) left):=K.out.keep B5.out;have aM:v1≠.slice none 0 0:=fun h=>by have:=(hn1.1 h).1;simp at this
      have aJ:=B5.out.size;clear ho1 hg1 hn1 hb1;refine jg (i:=9) (o:=⟨some 88,.call ⟨.builtin .append,#[.tmp 83,.tmp 87],#[158,158]⟩,158,"l09_move.go:76",#[⟨4,.data⟩,⟨8,.data⟩,⟨4,.chain⟩],none⟩) rfl rfl (by kernel_rfl) (fun K9 U=>?_);have aC:∃ad:Addr,A=some ad∧∀jj u,(moveC (left.drop (i+1)))[jj]?=some u→w5.cell? (ad.add jj)=some u:=by
       by_cases hc:gcap=i+1
       ·refine⟨(Z g 0),by rw[←HA.out,if_pos hc],fun jj u hu=>?_⟩;have:left.drop (i+1) = []:=List.drop_eq_nil_of_le (by have:=HQ.out;omega);rw[this] at hu;simp[moveC] at hu
       ·refine⟨(Z g ((i+1)*2)),by rw[←HA.out,if_neg hc],abw (fun kk x hx=>?_)⟩;rw[List.getElem?_drop] at hx;have:=aS.out.cellAt hx;rw[show(i+1)*2+kk*2=(i+1+kk)*2 by omega];exact this
      obtain⟨ad,rfl,hcells⟩:=aC;obtain⟨v2,w6,hrun2,ho2,hg2,hn2,hb2⟩:=run_append_own_at (P:=Tryz.prog) w5 wa.heap.size 158 158 162 i0 (.agg #[vi 0,vi 0]) 2 16 Tryz.underlying158 hi hz0 hz1 hz2 rfl (by decide) v1 (left.take i).length (moveC (left.take i)) O5.out ad tl tc (moveC (left.drop (i+1))) (by rw[Xi,List.length_drop,HQ.out,HTL.out]) hcells adr (by rw[List.length_take];have:=HQ.out;have:=HTL.out;omega) (by rw[List.length_take];have:=HQ.out;have:=HTL.out;omega) aJ;refine jC (XX rfl rfl rfl hrun2) (U _ _ ⟨trivial,?_⟩);try simp only[Act.put,sT,sZ,sS]
      clear U hrun2 hcells;have aO:Hid (left.eraseIdx i=left.take i ++ left.drop (i+1)):=List.eraseIdx_eq_take_drop_succ _ _;have O6:Hid (jd w6 wa.heap.size v2 (left.eraseIdx i)):=by
       show jd _ _ _ _;rw[aO.out];refine jd.more ?_;have e:(left.drop (i+1)).length=tl:=by rw[List.length_drop,HQ.out,HTL.out]
       rw[e];exact ho2
      have B6:Hid (Below wa.heap.size wa w6):=B5.out.trans (xg O5.out aJ hg2);have aU:Hid (jd w6 w.heap.size (.slice af (j+1) vc') (o ++ [⟨d,s⟩])):=O.out.keep B6.out;have aN:v2≠.slice none 0 0:=fun h=>aM (hn2.1 h).1
      have aR:Hid (v2≠.slice none 0 0):=aN;clear ho2 hg2 hn2 hb2 aM aN;refine tkA 10 ⟨some 5,.assign (.tmp 88),158,"l09_move.go:76",#[⟨9,.data⟩,⟨9,.chain⟩,⟨0,.phase⟩,⟨1,.phase⟩,⟨2,.phase⟩,⟨3,.phase⟩,⟨4,.phase⟩,⟨5,.phase⟩,⟨6,.phase⟩,⟨7,.phase⟩,⟨8,.phase⟩,⟨9,.phase⟩],none⟩ ?_ (fun w h=>?_) ?_;rotate_left
      ·(try dsimp only at h);go_simp;(try with_reducible rfl)
      try simp only[Act.put,sT,sZ,sS]
      refine wpAnyH_done (by kernel_rfl) ?_ _;simp only[noThrow,Exit.inBlock];have ac:Hid (seqStep n (left,o)=(left.eraseIdx i,o ++ [⟨d,s⟩])):=aeg ag.out HX.out;show Exit.then _ _ Exit.normal _ _;simp only[Exit.then];go_roundw
      case rel=>
       refine⟨left.eraseIdx i,o ++ [⟨d,s⟩],j+1,by rw[ZW,HJ.out,ac.out],by have:=J.out;simp;omega,?_,by have:=List.length_eraseIdx_le left i;have:=ap.out;omega,O6.out.low BA.out.size,aR.out,aU.out,fun b h1 h2=>?_,Bel.after BA.out B6.out⟩
       ·have h1:=Qs (o:=o) ah.out ai.out;rw[ac.out] at h1;have:=aw.out;dsimp only at h1;omega
       ·have h3:=(O6.out.lt b h1).1;have h4:=aY.out b h2;omega
      case measure=>simp[lenOfW];omega
    ·have aq:Hid (left = []):=List.eq_nil_of_length_eq_zero (by have:=HQ.out;omega);obtain⟨sa,scap,rfl⟩:=aj.out.form HQ.out;go_wp2_with fail
     go_ret;refine⟨_,rfl,?_,aE.out⟩;have h1:=HJ.out;rw[aq.out] at h1;rw[←HL.out,←seq_end HR.out h1];exact au.out
end Go.Proofs.YtkbhbekfniadhaaGreat
