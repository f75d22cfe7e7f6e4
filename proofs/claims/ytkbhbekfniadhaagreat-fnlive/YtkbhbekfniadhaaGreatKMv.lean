/- Lists of moves: of the call's own, read, compared, marked, held against the marks, copied from the laws' own. Moves: what is right, what they do at once, what they do one behind the other: as lists. The row that does moves one behind the other: as steps over lists; it ends, and it does what they do at once. A program without phis: mathematics of what a block gets. MovesOk, of both sides. Sequence, of the model. -/
import Derived.Test.YtkbhbekfniadhaaGreatTk0
import Derived.Test.YtkbhbekfniadhaaGreatKIns
import Derived.Test.YtkbhbekfniadhaaGreatKCkS
import Derived.Test.YtkbhbekfniadhaaGreatKPre
import Derived.Test.YtkbhbekfniadhaaGreatKSh8
import Derived.Test.YtkbhbekfniadhaaGreatKSh1
import Derived.Test.YtkbhbekfniadhaaGreatKTo
import Derived.Test.YtkbhbekfniadhaaGreatKDrA
import Derived.Maps.AppendAt
import Derived.Deep.OwnRows
import Derived.Handy
import Derived.Deep.RegionWith
import Derived.BigRegion
import Derived.Deep.QuietTactic
import Derived.BigQuiet
import Derived.Test.YtkbhbekfniadhaaGreatKDfs
set_option maxHeartbeats 4000000
namespace Go.Proofs.YtkbhbekfniadhaaGreat
open Go.ChangeShapes Go.WideShapes Go.ChangeAt Go.RowKit
set_option linter.unusedVariables false
open Go.ChangeShapes Go.WideShapes Go.ChangeAt Go.RowKit
theorem adl : (Tryz.prog.info? 162).map (fun i=>(i.zero,i.size,i.bytes))=some (some (.agg #[vi 0,vi 0]),2,16):=by kernel_rfl
theorem xg {w w1:World}{lo:Nat}{t:TypeId}{s n:Nat}{v:Value}{xs:List Value}(h:w.ownsRow lo t s v n xs)(hlo:lo≤w.heap.size)(hg:w.grownBy w1 v.ownBlock):Below lo w w1:=by
 refine(Below.refl lo w).grown hg hlo fun j ej=>?_
 rcases h.2 with ⟨rfl,_⟩ | ⟨g,cap,cur,rfl,hb,_,_⟩
 ·simp[Value.ownBlock] at ej
 ·simp[Value.ownBlock] at ej;subst ej;exact hb
def moveC : List jy→List Value
 | []=>[]
 | e::l=>vi e.fr :: vi e.v::moveC l
theorem Xi (l:List jy):(moveC l).length=l.length*2:=by
 induction l with
 | nil=>rfl
 | cons e l ih=>simp only[moveC,List.length_cons,ih];omega
theorem ae6 (l:List jy):∀{i:Nat} {x:jy},l[i]?=some x→(moveC l)[i*2]?=some (vi x.fr)∧(moveC l)[i*2+1]?=some (vi x.v):=by
 induction l with
 | nil=>intro i x h;simp at h
 | cons e l ih=>
  intro i x h;cases i with
  | zero=>
   simp at h;subst h;exact⟨rfl,rfl⟩
  | succ i=>
   simp at h;have:=ih h;rw[show(i+1)*2=i*2+1+1 by omega];simpa [moveC] using this
theorem ZU (l m:List jy):moveC (l ++ m)=moveC l ++ moveC m:=by
 induction l with
 | nil=>rfl
 | cons e l ih=>simp[moveC,ih]
def jd (w:World)(lo:Nat)(v:Value)(l:List jy):Prop:=w.ownsRow lo 162 2 v l.length (moveC l)
def ab5 (w:World)(v:Value)(l:List jy):Prop:=jz 0 2 qq w v l
theorem jd.small {w:World}{lo:Nat}{v:Value}{l:List jy}(h:jd w lo v l):l.length≤maxLen:=by
 rcases h.2 with ⟨_,h0⟩ | ⟨g,cap,cur,_,_,_,h1,h2,_⟩
 ·rw[h0];exact Nat.zero_le _
 ·omega
theorem jd.row {w:World}{lo:Nat}{v:Value}{l:List jy}(h:jd w lo v l) :
  ∃a cap,v=.slice a l.length cap∧(0<l.length→∃g,a=some (Z g 0)∧lo≤g∧g<w.heap.size∧(∀i x,l[i]?=some x→qq w g (i*2) x)∧∀i,w.frozen? (Z g i)=false):=by
 rcases h.2 with ⟨rfl,h0⟩ | ⟨g,cap,cur,rfl,hlo,hg,h1,h2,h3,h4⟩
 ·exact⟨none,0,by rw[h0],fun hp=>absurd hp (by omega)⟩
 ·refine⟨_,cap,rfl,fun hp=>⟨g,rfl,hlo,(aI hg).1,fun i x hx=>?_,fun i=>?_⟩⟩
  ·have hi:i<l.length:=(List.getElem?_eq_some_iff.1 hx).1;obtain⟨c0,c1⟩:=ae6 l hx;have e0:cur[i*2]?=some (vi x.fr):=by
    have e1:(cur.toList.take (l.length*2))[i*2]?=cur[i*2]?:=by rw[List.getElem?_take];simp;omega
    rw[←e1,h4];exact c0
   have e2:cur[i*2+1]?=some (vi x.v):=by
    have e1:(cur.toList.take (l.length*2))[i*2+1]?=cur[i*2+1]?:=by rw[List.getElem?_take];simp;omega
    rw[←e1,h4];exact c1
   exact⟨by simp[World.cell?,hg,e0],by simp[World.cell?,hg,e2]⟩
  ·simp[World.frozen?,hg]
theorem jd.at {w:World}{lo:Nat}{v:Value}{l:List jy}(h:jd w lo v l):ab5 w v l:=by
 have hs:=h.small;obtain⟨a,cap,rfl,hc⟩:=h.row
 refine ⟨a, cap, rfl, by have : maxLen ≤ 9223372036854775807 := by decide
                         omega,fun hp=>?_⟩
 obtain⟨g,rfl,_,_,hd,_⟩:=hc hp;exact⟨g,0,rfl,Nat.zero_le _,fun i x hx=>by simpa using hd i x hx⟩
theorem jd.keep {w w':World}{lo:Nat}{v:Value}{l:List jy}(h:jd w lo v l)(hb:Below w.heap.size w w'):jd w' lo v l:=y8 h hb
theorem jd.low {w:World}{lo lo':Nat}{v:Value}{l:List jy}(h:jd w lo v l)(hl:lo'≤lo):jd w lo' v l:=Qv h hl
theorem jd.lt {w:World}{b:Nat}{v:Value}{l:List jy}(h:jd w b v l):∀g,v.ownBlock=some g→b≤g∧g<w.heap.size:=World.ownsRow.lt h
def abt (w:World)(l:List jy)(e:Ending)(w':World):Prop := ∃v,e=.returned v∧jd w' w.heap.size v l∧Below w.heap.size w w'
theorem Ks {w w':World}{lo g:Nat}(hg:w'.heap[g]?=some (.cells #[] 162 (0,0)))(hl:lo≤g):jd w' lo (sq g 0 0 0) [] :=
 ⟨rfl,.inr ⟨g,0,#[],rfl,hl,hg,Nat.le_refl _,Nat.zero_le _,rfl,rfl⟩⟩
theorem jd.next {w:World}{lo:Nat}{v:Value}{l:List jy}{x:jy}(h:w.ownsRow lo 162 2 v (l.length+1) (moveC l ++ [vi x.fr,vi x.v])):jd w lo v (l ++ [x]):=by
 unfold jd;rw[ZU,List.length_append];exact h
theorem jd.more {w:World}{lo:Nat}{v:Value}{l m:List jy}(h:w.ownsRow lo 162 2 v (l.length+m.length) (moveC l ++ moveC m)):jd w lo v (l ++ m):=by
 unfold jd;rw[ZU,List.length_append];exact h
theorem ja.lt {w:World}{b:Nat}{v:Value}{l:List Int}(h:ja w b v l):∀g,v.ownBlock=some g→b≤g∧g<w.heap.size:=World.ownsRow.lt h
theorem jd.ags {w:World}{lo g n cap:Nat}{l:List jy}(h:jd w lo (sq g 0 n cap) l):∃c,w.heap[g]?=some (.cells c 162 (0,0)):=by
 rcases h.2 with ⟨h0,_⟩ | ⟨g',cap',cur,h0,_,hg,_⟩
 ·cases h0
 ·cases h0
  exact⟨cur,hg⟩
def mvIn (x:jy)(n:Int):Bool:=decide (0≤x.fr∧x.fr<n∧0≤x.v∧x.v<n)
def ahz (l:List jy)(n:Int):Bool:=l.all (fun x=>mvIn x n) && decide ((l.map (fun x=>x.fr)).Nodup)
def zi (l:List jy)(n:Int):Bool:=decide (l.length≤24) && ahz l n
theorem abu {l:List jy}{n:Int}:ahz l n=true↔(∀x∈l,mvIn x n=true)∧(l.map (fun x=>x.fr)).Nodup:=by
 simp[ahz]
theorem yW {α:Type}{l:List α}{k:Nat}{x:α}(h:l[k]?=some x):l.take (k+1)=l.take k ++ [x]:=by
 rw[List.take_add_one,h]
 rfl
theorem ZV {l:List jy}{n:Int}(h:zi l n=true):l.length≤24:=by
 simp[zi] at h;exact h.1
theorem adm {l:List jy}{n:Int}(h:zi l n=true):(∀x∈l,mvIn x n=true)∧(l.map (fun x=>x.fr)).Nodup:=by
 simp only[zi,Bool.and_eq_true] at h;exact abu.1 h.2
theorem ae7 {x:jy}{n:Int}:mvIn x n=true↔0≤x.fr∧x.fr<n∧0≤x.v∧x.v<n:=by simp[mvIn]
def ya (left:List jy)(v:Int):Bool:=left.any (fun y=>y.v == v)
def yb (left:List jy):Option Nat:=left.findIdx? (fun x=>!(ya left x.fr))
def xO (n old:Int)(x:jy):jy:=if x.v=old then⟨x.fr,n⟩ else x
def seqStep (n:Int)(s:List jy × List jy):List jy × List jy :=
 match s.1 with
 | []=>s
 | x::r=>match yb (x::r) with
  | some i=>((x::r).eraseIdx i,s.2 ++ [(x::r).getD i x])
  | none=>((x::r).map (xO n x.fr),s.2 ++ [⟨n,x.fr⟩])
def seqN (n:Int):Nat→List jy × List jy→List jy × List jy
 | 0,s=>s
 | k+1,s=>seqN n k (seqStep n s)
def j7 (l:List jy):List jy:=l.filter (fun x=>decide (x.fr≠x.v))
def ab6 (n:Int)(l:List jy):List jy:=(seqN n (2*l.length) (j7 l,[])).2
theorem aea (n:Int)(o:List jy):seqStep n ([],o)=([],o):=rfl
theorem YZ (n:Int):∀k o,seqN n k ([],o)=([],o)
 | 0,o=>rfl
 | k+1,o=>by rw[seqN,aea,YZ n k]
theorem ZW (n:Int):∀k s,seqN n (k+1) s=seqStep n (seqN n k s)
 | 0,s=>rfl
 | k+1,s=>by rw[seqN,ZW n k,seqN]
theorem ab7 (n:Int):∀a b s,seqN n (a+b) s=seqN n b (seqN n a s)
 | 0,b,s=>by rw[Nat.zero_add];rfl
 | a+1,b,s=>by rw[show a+1+b=(a+b)+1 by omega,seqN,ab7 n a b,seqN]
structure qV (n:Int)(left:List jy):Prop where
 d:∀x∈left,0≤x.fr∧x.fr<n
 s:∀x∈left,0≤x.v∧x.v≤n
 ne:∀x∈left,x.fr≠x.v
 nd:(left.map (fun x=>x.fr)).Nodup
theorem qV.init {n:Int}{l:List jy}(h:zi l n=true):qV n (j7 l):=by
 obtain⟨h1,h2⟩:=adm h;have hm:∀x∈j7 l,x∈l∧x.fr≠x.v:=fun x hx=>by simpa [j7] using hx
 refine⟨fun x hx=>?_,fun x hx=>?_,fun x hx=>(hm x hx).2,(List.Sublist.map _ List.filter_sublist).nodup h2⟩
 ·have:=ae7.1 (h1 x (hm x hx).1);omega
 ·have:=ae7.1 (h1 x (hm x hx).1);omega
theorem qV.erase {n:Int}{left:List jy}(h:qV n left)(i:Nat):qV n (left.eraseIdx i):=by
 have hs:(left.eraseIdx i).Sublist left:=List.eraseIdx_sublist _ _;exact⟨fun x hx=>h.d x (hs.subset hx),fun x hx=>h.s x (hs.subset hx),fun x hx=>h.ne x (hs.subset hx),(hs.map _).nodup h.nd⟩
theorem Xj (n old:Int)(x:jy):(xO n old x).fr=x.fr:=by unfold xO;split <;> rfl
theorem qV.from {n:Int}{left:List jy}(h:qV n left)(old:Int)(hn:0≤n):qV n (left.map (xO n old)):=by
 refine⟨fun x hx=>?_,fun x hx=>?_,fun x hx=>?_,?_⟩
 ·obtain⟨y,hy,rfl⟩:=List.mem_map.1 hx;rw[Xj];exact h.d y hy
 ·obtain⟨y,hy,rfl⟩:=List.mem_map.1 hx;unfold xO;split
  ·exact⟨hn,Int.le_refl _⟩
  ·exact h.s y hy
 ·obtain⟨y,hy,rfl⟩:=List.mem_map.1 hx;rw[Xj];unfold xO;split
  ·have:=h.d y hy;show y.fr≠n;omega
  ·exact h.ne y hy
 ·rw[List.map_map];have:((fun x:jy=>x.fr) ∘ xO n old)=(fun x=>x.fr):=by funext x;exact Xj n old x
  rw[this];exact h.nd
theorem qV.step {n:Int}{s:List jy × List jy}(h:qV n s.1):qV n (seqStep n s).1:=by
 unfold seqStep;split
 ·exact h
 ·rename_i x r hx
  rw[hx] at h;split
  ·exact h.erase _
  ·exact h.from _ (by have:=h.d x (by simp);omega)
theorem qV.seqN {n:Int}:∀k {s:List jy × List jy},qV n s.1→qV n (seqN n k s).1
 | 0,_,h=>h
 | k+1,_,h=>qV.seqN k h.step
def JX (left:List jy):Nat:=2*left.length-(if (yb left).isSome then 1 else 0)
theorem ZX {left:List jy}{i:Nat}(h:yb left=some i):∃x,left[i]?=some x∧ya left x.fr=false∧∀j y,j<i→left[j]?=some y→ya left y.fr=true:=by
 unfold yb at h;rw[List.findIdx?_eq_some_iff_getElem] at h;obtain⟨hi,h1,h2⟩:=h;refine⟨left[i],List.getElem?_eq_getElem hi,by simpa using h1,fun j y hj hy=>?_⟩;have h3:=h2 j hj;obtain⟨_,e⟩:=List.getElem?_eq_some_iff.1 hy;rw[e] at h3;simpa using h3
theorem aeb {left:List jy}(h:yb left=none):∀x∈left,ya left x.fr=true:=by
 unfold yb at h;rw[List.findIdx?_eq_none_iff] at h;intro x hx;simpa using h x hx
theorem ahA {left:List jy}{i:Nat}{x:jy}(hx:left[i]?=some x)(h1:ya left x.fr=false)(h2:∀j y,j<i→left[j]?=some y→ya left y.fr=true):yb left=some i:=by
 unfold yb;rw[List.findIdx?_eq_some_iff_getElem];obtain⟨hi,e⟩:=List.getElem?_eq_some_iff.1 hx;refine⟨hi,by rw[e,h1];rfl,fun j hj=>?_⟩;have:=h2 j _ hj (List.getElem?_eq_getElem (by omega));simp[this]
theorem afV {left:List jy}(h:∀x∈left,ya left x.fr=true):yb left=none:=by
 unfold yb;rw[List.findIdx?_eq_none_iff];intro x hx;simp[h x hx]
theorem ZY {left:List jy}{v:Int}:ya left v=true↔∃y∈left,y.v=v:=by simp[ya]
theorem afW {n:Int}{x:jy}{r:List jy}(h:qV n (x::r)):(yb ((x::r).map (xO n x.fr))).isSome=true:=by
 cases h9:yb ((x::r).map (xO n x.fr)) with
 | some i=>rfl
 | none=>
  have h1:=aeb h9 (xO n x.fr x) (by simp);rw[Xj,ZY] at h1;obtain⟨y,hy,e⟩:=h1;obtain⟨z,hz,rfl⟩:=List.mem_map.1 hy;have hd:=h.d x (by simp);unfold xO at e;split at e
  ·have:n=x.fr:=e;omega
  ·rename_i hne
   exact absurd e hne
theorem Qr {n:Int}{x:jy}{r o:List jy}(h:qV n (x::r)):JX (seqStep n (x::r,o)).1<JX (x::r):=by
 unfold seqStep;dsimp only;cases h9:yb (x::r) with
 | some i=>
  dsimp only;obtain⟨y,hy,_⟩:=ZX h9;have hi:=(List.getElem?_eq_some_iff.1 hy).1;have hl:((x::r).eraseIdx i).length=r.length:=by rw[List.length_eraseIdx_of_lt hi];simp
  unfold JX;rw[hl,h9];simp only[List.length_cons,Option.isSome_some,if_true];split <;> omega
 | none=>
  dsimp only;unfold JX;rw[h9,afW h];simp;omega
theorem adn {n:Int}:∀k {s:List jy × List jy},qV n s.1→JX s.1≤k→(seqN n k s).1 = []
 | 0,s,h,hk=>by
  obtain⟨left,o⟩:=s;cases left with
  | nil=>rfl
  | cons x r=>have:=Qr (o:=o) h;dsimp only at hk;omega
 | k+1,s,h,hk=>by
  obtain⟨left,o⟩:=s;cases left with
  | nil=>rw[YZ]
  | cons x r=>
   rw[seqN];have:=Qr (o:=o) h;dsimp only at hk;exact adn k h.step (by omega)
theorem seq_end {n:Int}{l:List jy}(h:zi l n=true){j:Nat}{o:List jy}(hj:seqN n j (j7 l,[])=([],o)):o=ab6 n l:=by
 have hle:JX (j7 l)≤2*l.length:=by
  have:(j7 l).length≤l.length:=List.length_filter_le _ _;unfold JX;omega
 have he:=adn (2*l.length) (s:=(j7 l,[])) (qV.init h) hle;unfold ab6;rcases Nat.le_total j (2*l.length) with h1 | h1
 ·obtain⟨d,hd⟩:=Nat.exists_eq_add_of_le h1;rw[hd,ab7,hj,YZ]
 ·obtain⟨d,hd⟩:=Nat.exists_eq_add_of_le h1;rw[hd,ab7] at hj;generalize seqN n (2*l.length) (j7 l,[])=s at *;obtain⟨a,b⟩:=s;dsimp only at he;subst he;rw[YZ] at hj;simpa using hj.symm
theorem aec (n:Int)(s:List jy × List jy):(seqStep n s).2.length≤s.2.length+1:=by
 unfold seqStep;split
 ·omega
 ·split <;> simp
theorem ae8 (n:Int):∀k s,(seqN n k s).2.length≤s.2.length+k
 | 0,s=>Nat.le_refl _
 | k+1,s=>by
  rw[seqN];have h1:=ae8 n k (seqStep n s);have h2:=aec n s;omega
theorem ahB (n:Int)(l:List jy):(ab6 n l).length≤2*l.length:=by
 have:=ae8 n (2*l.length) (j7 l,[]);simpa [ab6] using this
theorem getD_set_ne {l:List Int}{i j:Nat}(h:i≠j)(x:Int):(l.set i x).getD j 0=l.getD j 0:=by simp[List.getD,h]
def jF (d:Int)(b:Nat)(ar:List jy):List jy:=(ar.filter (fun a=>decide (a.fr=(b:Int)))).map (fun a=>⟨d,a.v⟩)
def j5 (b:Nat)(ps:List yy):List jy:=ps.flatMap (fun p=>jF p.d b p.arms)
theorem ab8 {d:Int}{b:Nat}{ar:List jy}{k:Nat}{a:jy}(h:ar[k]?=some a):jF d b (ar.take (k+1))=jF d b (ar.take k) ++ (if a.fr=(b:Int) then [⟨d,a.v⟩] else []):=by
 unfold jF;rw[List.take_add_one,h];by_cases e:a.fr=(b:Int) <;> simp[e]
theorem ab9 {b:Nat}{ps:List yy}{k:Nat}{p:yy}(h:ps[k]?=some p):j5 b (ps.take (k+1))=j5 b (ps.take k) ++ jF p.d b p.arms:=by
 unfold j5;rw[List.take_add_one,h];simp
theorem Yo {blocks vals d:Int}{b:Nat}:∀{ar:List jy},JY blocks vals ar ar.length→(jF d b ar).length≤1
 | [],_=>by simp[jF]
 | a::ar,h=>by
  have hsub:∀(i:Nat) x,ar[i]?=some x→(a::ar)[i+1]?=some x:=fun i x hx=>by simpa using hx
  have t:JY blocks vals ar ar.length:=fun j x hj hx=>by
   obtain⟨h1,h2,h3⟩:=h (j+1) x (by simp;omega) (hsub j x hx);exact⟨h1,h2,fun i y hi hy=>h3 (i+1) y (by omega) (hsub i y hy)⟩
  by_cases e:a.fr=(b:Int)
  ·have r:jF d b ar = []:=by
    unfold jF;rw[List.map_eq_nil_iff,List.filter_eq_nil_iff];intro x hx;obtain⟨i,hi⟩:=List.getElem?_of_mem hx;obtain⟨_,_,h3⟩:=h (i+1) x (by have:=(List.getElem?_eq_some_iff.1 hi).1;simp;omega) (hsub i x hi);have h4:=h3 0 a (by omega) rfl;rw[beq_eq_false_iff_ne] at h4;simp only[decide_eq_true_eq];intro e2;exact h4 (by rw[e,e2])
   have:jF d b (a::ar)=⟨d,a.v⟩::jF d b ar:=by simp[jF,e]
   rw[this,r];simp
  ·have:jF d b (a::ar)=jF d b ar:=by simp[jF,e]
   rw[this];exact Yo t
theorem ZZ {d:Int}{b:Nat}{ar:List jy}{x:jy}(h:x∈jF d b ar):x.fr=d∧∃a∈ar,x.v=a.v:=by
 unfold jF at h;obtain⟨a,ha,rfl⟩:=List.mem_map.1 h;exact⟨rfl,a,(List.mem_filter.1 ha).1,rfl⟩
theorem Yp {b:Nat}:∀{ps:List yy},(∀p∈ps,(jF p.d b p.arms).length≤1)→List.Sublist ((j5 b ps).map (fun x=>x.fr)) (ps.map (fun p=>p.d))
 | [],_=>by simp[j5]
 | p::ps,h=>by
  have ih:=Yp (b:=b) (ps:=ps) (fun q hq=>h q (List.mem_cons_of_mem _ hq));have h1:=h p List.mem_cons_self;have e:j5 b (p::ps)=jF p.d b p.arms ++ j5 b ps:=by simp[j5]
  rw[e,List.map_append,List.map_cons];have hf:∀x∈jF p.d b p.arms,x.fr=p.d:=fun x hx=>(ZZ hx).1
  match hm:jF p.d b p.arms,h1,hf with
  | [],_,_=>exact ih.cons _
  | [x],_,hf=>
   have:x.fr=p.d:=hf x (by simp);simp only[List.map_cons,List.map_nil,List.cons_append,List.nil_append,this];exact ih.cons_cons _
  | _::_::_,h1,_=>simp at h1
theorem aed {F:FnD}{s b:Nat}{x:jc}(hS:jm F)(hM:yR F)(hx:F.blocks[s]?=some x):zi (j5 b x.phis) F.values=true:=by
 obtain⟨G,_,hp,_,_⟩:=hS.2.2.2.2 s x hx;have r:∀p∈x.phis,(jF p.d b p.arms).length≤1:=fun p t=>by
  obtain⟨j,hj⟩:=List.getElem?_of_mem t;exact Yo (hp j p hj).2.2
 have h:=Yp r;have B:(x.phis.map (fun p=>p.d)).Nodup:=by
  have h1:=acF (k:=x.phis.length) hx;rw[List.take_length] at h1;have h2:List.Sublist (jW s x.phis) (qG F):=(List.sublist_append_right _ _).trans h1.sublist;have h3:=(h2.map (fun m:Made=>m.1)).nodup hM;unfold jW at h3;rw[List.map_map] at h3;exact h3
 unfold zi;rw[Bool.and_eq_true,abu];refine⟨?_,fun y hy=>?_,h.nodup B⟩
 ·have:=h.length_le;simp only[List.length_map] at this;simp only[decide_eq_true_eq];omega
 ·unfold j5 at hy;obtain⟨p,t,hyp⟩:=List.mem_flatMap.1 hy;obtain⟨j,hj⟩:=List.getElem?_of_mem t;obtain⟨hd,_,ha⟩:=hp j p hj;obtain⟨e1,a,ham,e2⟩:=ZZ hyp;obtain⟨i,hi⟩:=List.getElem?_of_mem ham;obtain⟨_,hv,_⟩:=ha i a (List.getElem?_eq_some_iff.1 hi).1 hi;unfold mvIn;rw[e1,e2];simp only[jl,decide_eq_true_eq,Bool.and_eq_true] at hd hv ⊢;omega
def ado (m:jy):kS:=⟨25,m.fr,m.v,0,0⟩
def adp (F:FnD)(b:Nat):List kS:=match succsN F b with
 | [s]=>(match F.blocks[s.toNat]? with | some y=>(ab6 F.values (j5 b y.phis)).map ado | none=>[])
 | _=>[]
def lowX (F:FnD)(b:Nat)(x:jc):jc := { phis := [],list:=x.list ++ adp F b,term:=x.term }
def yB (F:FnD)(k:Nat):List jc:=F.blocks.mapIdx (fun b x=>if b<k then lowX F b x else x)
theorem Y0 {F:FnD}{k b:Nat}{x:jc}(h:F.blocks[b]?=some x):(yB F k)[b]?=some (if b<k then lowX F b x else x):=by simp[yB,h]
theorem adq (F:FnD)(k:Nat):(yB F k).length=F.blocks.length:=by simp[yB]
theorem afX (F:FnD):yB F 0=F.blocks:=by
 apply List.ext_getElem?
 intro i;simp[yB]
theorem abv {F:FnD}{k:Nat}{x:jc}(h:F.blocks[k]?=some x):(yB F k).set k (lowX F k x)=yB F (k+1):=by
 apply List.ext_getElem?
 intro i;by_cases e:i=k
 ·subst e;rw[List.getElem?_set_self (by rw[adq];exact(List.getElem?_eq_some_iff.1 h).1),Y0 h,if_pos (Nat.lt_succ_self _)]
 ·rw[List.getElem?_set_ne (fun e2=>e e2.symm)];cases hi:F.blocks[i]? with
  | none=>simp[yB,hi]
  | some y=>
   rw[Y0 hi,Y0 hi];by_cases h1:i<k
   ·rw[if_pos h1,if_pos (by omega)]
   ·rw[if_neg h1,if_neg (by omega)]
def agm (F:FnD):FnD:=⟨yB F F.blocks.length,F.values+1⟩
theorem Bel.drewN {B:Nat}{a w:World}(h:Below B a w)(n:Nat):Below B a (w.drewN n):=⟨h.os,h.tape,h.output,h.size,h.block⟩
def aee (left:List jy):Int:=match yb left with | some i=>(i:Int) | none=>-1
def yC (l:List jy)(i:Nat)(d:Int)(k:Nat):Prop := ∃j y,j<k∧j≠i∧l[j]?=some y∧y.v=d
theorem yc {l:List jy}{i:Nat}{d:Int}{k:Nat}{y:jy}(hy:l[k]?=some y):yC l i d (k+1)↔yC l i d k∨(k≠i∧y.v=d):=by
 constructor
 ·rintro⟨j,z,hj,hji,hz,e⟩;by_cases h:j=k
  ·subst h;rw[hy] at hz;cases hz
   exact .inr ⟨hji,e⟩
  ·exact .inl ⟨j,z,by omega,hji,hz,e⟩
 ·rintro(⟨j,z,hj,hji,hz,e⟩ | ⟨hk,e⟩)
  ·exact⟨j,z,by omega,hji,hz,e⟩
  ·exact⟨k,y,by omega,hk,hy,e⟩
theorem aaU {l:List jy}{i:Nat}{x:jy}(hx:l[i]?=some x)(hne:∀x∈l,x.fr≠x.v):yC l i x.fr l.length↔ya l x.fr=true:=by
 rw[ZY];constructor
 ·rintro⟨j,y,_,_,hy,e⟩;exact⟨y,List.mem_of_getElem? hy,e⟩
 ·rintro⟨y,hy,e⟩;obtain⟨j,hj⟩:=List.mem_iff_getElem?.1 hy;refine⟨j,y,(List.getElem?_eq_some_iff.1 hj).1,fun e2=>?_,hj,e⟩;subst e2;rw[hx] at hj;cases hj
  exact hne x hy e.symm
theorem afY (v:Value)(l:List jy)(w:World)(ha:ab5 w v l)(hne:∀x∈l,x.fr≠x.v) :
  Calls Tryz.prog 127 #[v] w fun e w'=>e=.returned (vi (aee l))∧Below w.heap.size w w':=by
 obtain⟨a,cap,rfl,hm,hc⟩:=ha;obtain⟨m,HM⟩:∃m,Hid (l.length=m):=⟨_,rfl⟩;obtain⟨R,HR⟩:∃R,Hid (aee l=R):=⟨_,rfl⟩;rw[HM.out] at hm hc ⊢;rw[HR.out];have HC:Hid (0<m→∃b off,a=some (Z b off)∧0≤b∧∀i x,l[i]?=some x→qq w b (off+i*2) x):=hc;have U:Hid (∀x∈l,x.fr≠x.v):=hne;clear hc hne;go_enter Tryz.func127,Tryz.ntmps127
 go_wp2;go_loopw [3] (fun i wr=>∃k:Nat,k≤m∧i=vi k∧(∀j y,j<k→l[j]?=some y→ya l y.fr=true)∧Below w.heap.size w wr) (fun i _=>m-(intOf i).toNat)
 case atStart=>exact⟨0,Nat.zero_le _,rfl,fun j y hj=>absurd hj (by omega),Below.refl _ _⟩
 case round=>
  obtain⟨k,hk,rfl,hno,hB⟩:=hrel;have H:Hid (∀j y,j<k→l[j]?=some y→ya l y.fr=true):=hno;have HB:Hid (Below w.heap.size w wr):=hB;clear hno hB;by_cases ac:(k:Int)<(m:Int)
  ·obtain⟨b,off,rfl,_,hc1⟩:=HC.out (by omega);have J:Hid (∀i x,l[i]?=some x→qq w b (off+i*2) x):=hc1;have M:k<l.length:=by have:=HM.out;omega
   obtain⟨x,HX⟩:∃x,Hid (l[k]?=some x):=⟨l[k],List.getElem?_eq_getElem M⟩;clear hc1 M;obtain⟨d,s⟩:=x;have O:Hid (w.cell? (Z b (off+k*2))=some (vi d)):=(J.out k _ HX.out).1;go_wp2;go_loopw [4,5] (fun t i w2=>∃(j:Nat) (q:Bool),j≤m∧i=vi j∧t=.bool q∧(q=true↔yC l k d j)∧Below w.heap.size w w2) (fun _ i _=>m-(intOf i).toNat)
   case atStart=>exact⟨0,false,Nat.zero_le _,rfl,rfl,⟨fun h=>(by cases h),fun⟨j,y,h,_⟩=>absurd h (by omega)⟩,HB.out⟩
   case round=>
    obtain⟨j,q,hj,rfl,rfl,hq,hB2⟩:=hrel;have HQ:Hid (q=true↔yC l k d j):=hq;have r:Hid (Below w.heap.size w wr):=hB2;have c0:=Bel.keeps hB2 O.out;clear hq hB2;by_cases ad:(j:Int)<(m:Int)
    ·have L:j<l.length:=by have:=HM.out;omega
     obtain⟨y,HY⟩:∃y,Hid (l[j]?=some y):=⟨l[j],List.getElem?_eq_getElem L⟩;have q0:=Bel.keeps r.out (J.out j y HY.out).2;obtain⟨d2,s2⟩:=y;dsimp only at q0;clear L;cases q with
     | true=>
      have V:Hid (yC l k d j):=HQ.out.1 rfl;clear HQ;go_wp2
      go_quiet (fail)
      go_wp2;go_roundw
      case rel=>exact⟨j+1,true,by omega,by go_num,rfl,⟨fun _=>(yc HY.out).2 (.inl V.out),fun _=>rfl⟩,Bel.drewN r.out _⟩
      case measure=>simp[intOf];omega
     | false=>
      have K:Hid (¬yC l k d j):=fun h=>by cases HQ.out.2 h
      clear HQ;by_cases B:(j:Int)=(k:Int)
      ·have I:((j:Int) != (k:Int))=false:=by simpa using B
       have G:Hid (j=k):=by show _=_;omega
       clear B;go_wp2
       go_quiet (fail)
       go_wp2;go_roundw
       case rel=>exact⟨j+1,false,by omega,by go_num,rfl,⟨fun h=>(by cases h),fun h=>(by
        rcases(yc HY.out).1 h with h | h
        ·exact absurd h K.out
        ·exact absurd G.out h.1)⟩,Bel.drewN r.out _⟩
       case measure=>simp[intOf];omega
      ·have I:((j:Int) != (k:Int))=true:=by simpa using B
       have G:Hid (¬j=k):=by show ¬_;omega
       clear B;by_cases hd:s2=d
       ·subst hd;have X:(s2 == s2)=true:=by simp
        go_wp2
        go_quiet (fail)
        go_wp2;go_roundw
        case rel=>exact⟨j+1,true,by omega,by go_num,rfl,⟨fun _=>(yc HY.out).2 (.inr ⟨G.out,rfl⟩),fun _=>rfl⟩,Bel.drewN r.out _⟩
        case measure=>simp[intOf];omega
       ·have X:(s2 == d)=false:=by simpa using hd
        have HD:Hid (¬s2=d):=hd;clear hd;go_wp2
        go_quiet (fail)
        go_wp2;go_roundw
        case rel=>exact⟨j+1,false,by omega,by go_num,rfl,⟨fun h=>(by cases h),fun h=>(by
         rcases(yc HY.out).1 h with h | h
         ·exact absurd h K.out
         ·exact absurd h.2 HD.out)⟩,Bel.drewN r.out _⟩
        case measure=>simp[intOf];omega
    ·have aa:j=m:=by omega
     subst aa;have HT:Hid (q=ya l d):=by
      have h1:=aaU HX.out U.out;rw[HM.out] at h1;have h2:=HQ.out.trans h1;show _=_;cases q <;> cases h3:ya l d <;> simp_all
     cases q with
     | true=>
      go_wp2;go_roundw
      case rel=>
       refine⟨k+1,by omega,by go_num,fun i y hi hy=>?_,r.out⟩;by_cases e:i=k
       ·subst e;rw[HX.out] at hy;cases hy
        exact HT.out.symm
       ·exact H.out i y (by omega) hy
      case measure=>simp[intOf];omega
     | false=>
      obtain rfl:(k:Int)=R:=by
       rw[←HR.out];unfold aee;rw[ahA HX.out HT.out.symm H.out]
      go_wp2;go_ret;exact⟨rfl,r.out⟩
  ·have ab:k=m:=by omega
   subst ab;obtain rfl:(-1:Int)=R:=by
    rw[←HR.out];unfold aee
    rw[afV (fun x hx=>by
     obtain⟨j,hj⟩:=List.mem_iff_getElem?.1 hx
     exact H.out j x (by have:=(List.getElem?_eq_some_iff.1 hj).1;have:=HM.out;omega) hj)]
   go_wp2;go_ret;exact⟨rfl,HB.out⟩
end Go.Proofs.YtkbhbekfniadhaaGreat
