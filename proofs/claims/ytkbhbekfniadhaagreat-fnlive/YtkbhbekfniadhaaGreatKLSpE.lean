/- What is needed at the beginning of each block: the model's rounds (l11In). -/
import Derived.Test.YtkbhbekfniadhaaGreatTkK
import Derived.Test.YtkbhbekfniadhaaGreatTk0
import Derived.Test.YtkbhbekfniadhaaGreatKLSpC
import Derived.Maps.AppendAt
import Derived.RangeFuncBox
import Derived.Deep.LoopGhost
set_option maxRecDepth 100000
set_option maxHeartbeats 8000000
namespace Go.Proofs.YtkbhbekfniadhaaGreat
open Go.ChangeShapes Go.WideShapes Go.ChangeAt Go.RowKit
set_option linter.unusedVariables false
structure Je (F:FnD)(n V:Nat):Prop where
 len:F.blocks.length=n
 n1:1≤n
 n16:n≤16
 vals:F.values=(V:Int)
 v80:V≤80
 su:∀(j:Nat),∀s∈succsN F j,0≤s∧s<n
 ends:∀(j:Nat) x,F.blocks[j]?=some x→∀z∈kT x.term.k x.term.a,0≤z∧z<V
 uses:∀(j:Nat) x,F.blocks[j]?=some x→∀y∈x.list,(∀z∈kK y.op y.a y.b,0≤z∧z<V)∧(jX y.op y.d = -1∨(0≤jX y.op y.d∧jX y.op y.d<V))
theorem Je.atV {F:FnD}{n V:Nat}(h:Je F n V){b:Nat}{x:jc}(hx:F.blocks[b]?=some x){o:List Int}(ho:∀z∈o,z<(V:Int))(j:Nat):∀z∈atS x o j,z<(V:Int):=by
 have key:∀l:List kS,(∀y∈l,y∈x.list)→∀z∈l.foldr Q8 (endS x.term o),z<(V:Int):=by
  intro l;induction l with
  | nil=>
   intro _ z hz;obtain⟨h1,_⟩:=(qM _ z).1 hz;rcases List.mem_append.1 h1 with h1 | h1
   ·exact ho z h1
   ·exact(h.ends b x hx z h1).2
  | cons y l ih=>
   intro hl z hz;obtain⟨h1,_⟩:=(qM _ z).1 hz;rcases List.mem_append.1 h1 with h1 | h1
   ·exact ih (fun q hq=>hl q (by simp[hq])) z (List.mem_filter.1 h1).1
   ·exact((h.uses b x hx y (hl y (by simp))).1 z h1).2
 exact key _ (fun y hy=>List.mem_of_mem_drop hy)
theorem outV {F:FnD}{V:Nat}{ins:Nat→List Int}(hi:∀b,∀z∈ins b,z<(V:Int))(b:Nat):∀z∈yT F ins b,z<(V:Int):=fun z hz=>by
 obtain⟨h1,_⟩:=(qM _ z).1 hz;obtain⟨s,_,h2⟩:=List.mem_flatMap.1 h1;exact hi _ z h2
theorem Je.inV {F:FnD}{n V:Nat}(h:Je F n V){ins:Nat→List Int}(hi:∀b,∀z∈ins b,z<(V:Int))(b:Nat):∀z∈inF F ins b,z<(V:Int):=by
 unfold inF;split
 ·rename_i x hx;exact h.atV hx (outV hi b) 0
 ·intro z hz;cases hz
theorem bits_inj {V:Nat}{l m:List Int}(hl:Asc l)(hm:Asc m)(l8:JZ l)(m8:JZ m)(lV:∀z∈l,z<(V:Int))(mV:∀z∈m,z<(V:Int))(h:∀j:Nat,j<V→((j:Int)∈l↔(j:Int)∈m)):l=m:=by
 refine XR hl hm (fun x=>⟨fun hx=>?_,fun hx=>?_⟩)
 ·have:=l8 x hx;have h1:=lV x hx;obtain⟨j,rfl⟩:∃j:Nat,x=(j:Int):=⟨x.toNat,by omega⟩;exact(h j (by omega)).1 hx
 ·have:=m8 x hx;have h1:=mV x hx;obtain⟨j,rfl⟩:∃j:Nat,x=(j:Int):=⟨x.toNat,by omega⟩;exact(h j (by omega)).2 hx
theorem ji.block {V:World}{lo:Nat}{sv:Value}{l:List Bool}(h:ji V lo sv l){k:Nat}(hk:sv.ownBlock=some k):lo≤k∧∃c,V.heap[k]?=some (.cells c 4 (0,0)):=by
 rcases h with ⟨h0,⟨rfl,_⟩ | ⟨g',cap,cur,rfl,h2,h3,h4⟩⟩
 ·simp[Value.ownBlock] at hk
 ·simp[Value.ownBlock] at hk;subst hk;exact⟨h2,_,h3⟩
theorem ji.ZO {w w':World}{lo:Nat}{v:Value}{l:List Bool}(h:ji w lo v l)(hs:∀b,v.ownBlock=some b→w'.heap[b]?=w.heap[b]?):ji w' lo v l:=by
 rcases h with ⟨h0,h1 | ⟨g',cap,cur,rfl,h2,h3,h4⟩⟩
 ·exact⟨h0,.inl h1⟩
 ·exact⟨h0,.inr ⟨g',cap,cur,rfl,h2,(hs g' rfl).trans h3,h4⟩⟩
structure abp (w:World)(lo g n V:Nat)(ls:Nat→List Int):Prop where
 low:lo≤g
 box:∃cur,w.heap[g]?=some (.cells cur 56 (0,0))∧n≤cur.size∧∀i,i<n→∃g' cap',cur[i]?=some (sq g' 0 V cap')∧ji w lo (sq g' 0 V cap') (bitsOf V (ls i))
theorem abp.at {w:World}{lo g n V:Nat}{ls:Nat→List Int}(h:abp w lo g n V ls):aaS w g n V ls:=fun i hi=>by
 obtain⟨cur,hc,_,hr⟩:=h.box;obtain⟨g',cap',h1,h2⟩:=hr i hi;exact⟨_,_,by simp[World.cell?,hc,h1],h2.at⟩
theorem abp.lt {w:World}{lo g n V:Nat}{ls:Nat→List Int}(h:abp w lo g n V ls):g<w.heap.size:=by
 obtain⟨cur,hc,_⟩:=h.box;exact(aI hc).1
theorem abp.keep {w w':World}{lo g n V:Nat}{ls:Nat→List Int}(h:abp w lo g n V ls)(hb:Below w.heap.size w w'):abp w' lo g n V ls:=by
 obtain⟨cur,hc,hs,hr⟩:=h.box;refine⟨h.low,cur,(hb.block g h.lt).trans hc,hs,fun i hi=>?_⟩;obtain⟨g',cap',h1,h2⟩:=hr i hi;exact⟨g',cap',h1,h2.keep hb⟩
theorem abp.put {w:World}{lo g n V:Nat}{ls:Nat→List Int}(h:abp w lo g n V ls){b:Nat}(hb:b<n){g2 cap2:Nat}{l:List Int}(ho:ji w lo (sq g2 0 V cap2) (bitsOf V l)):(∃u,w.cell? (Z g b)=some u)∧w.frozen? (Z g b)=false∧abp (w.setCell (Z g b) (sq g2 0 V cap2)) lo g n V (xT ls b l):=by
 obtain⟨cur,hc,hs,hr⟩:=h.box;have r:b<cur.size:=by omega
 have key:∀{sv:Value} {m:List Bool},ji w lo sv m→ji (w.setCell (Z g b) (sq g2 0 V cap2)) lo sv m:=fun hm=>hm.ZO (fun k hk=>Below.heap_setCell _ _ _ k (by
  intro e;obtain⟨_,c,h9⟩:=hm.block hk;dsimp only at e;rw[e,hc] at h9
  simp at h9))
 obtain⟨hl,hk⟩:=aI hc;refine⟨⟨cur[b],by simp[World.cell?,hc,r]⟩,by simp[World.frozen?,hc],h.low,cur.setIfInBounds b (sq g2 0 V cap2),?_,by simpa using hs,fun i hi=>?_⟩
 ·show(w.heap.modify g _)[g]?=_;rw[Array.getElem?_eq_getElem (by rw[Array.size_modify];exact hl),Array.getElem_modify_self,hk]
  rfl
 ·unfold xT;by_cases e:i=b
  ·subst e;rw[if_pos rfl];exact⟨g2,cap2,by simp[r],key ho⟩
  ·rw[if_neg e];obtain⟨g',cap',h1,h2⟩:=hr i hi;exact⟨g',cap',by rw[Array.getElem?_setIfInBounds,if_neg (fun h=>e h.symm)];exact h1,key h2⟩
theorem ji.ae2 {W W':World}{lo g:Nat}{sv:Value}{l:List Bool}(h:ji W lo sv l)(hg:W.grownBy W' (some g)){cur:Array Value}{z:Nat × Nat}(hb:W.heap[g]?=some (.cells cur 56 z)):ji W' lo sv l:=h.ZO (fun k hk=>hg.block k (by obtain⟨_,c,h9⟩:=h.block hk;exact(aI h9).1) (fun e=>by
 cases e
 obtain⟨_,c,h9⟩:=h.block hk;rw[hb] at h9
 simp at h9))
def HdUp (w:World)(lo V:Nat)(mv:Value)(k:Nat):Prop := ∃hs:List Value,w.ownsRow lo 56 1 mv k hs∧∀h∈hs,(∃g' cap',h=sq g' 0 V cap')∧ji w lo h (bitsOf V [])
theorem aht {wM wa:World}{lo V g g' k cap cap':Nat}{hs:List Value}{o:Obj}(hrow:wM.ownsRow lo 56 1 (sq g 0 k cap) k hs)(hall:∀h∈hs,(∃g' cap',h=sq g' 0 V cap')∧ji wM lo h (bitsOf V [])){gr cr:Nat}(hnew:ji wM lo (sq gr 0 V cr) (bitsOf V []))
  (hown:wa.ownsRow lo 56 1 (sq g' 0 (k+1) cap') (k+1) (hs ++ [sq gr 0 V cr])) (hg:(wM.alloc o).grownBy wa (sq g 0 k cap).ownBlock):HdUp wa lo V (sq g' 0 (k+1) cap') (k+1):=by
 obtain⟨cur,hcur⟩:∃cur,wM.heap[g]?=some (.cells cur 56 (0,0)):=by
  rcases hrow.2 with ⟨h0,_⟩ | ⟨g9,c9,cur,hv,_,h9,_⟩
  ·cases h0
  ·cases hv;exact⟨cur,h9⟩
 have r:(wM.alloc o).heap[g]?=some (.cells cur 56 (0,0)):=(Below.heap_alloc wM o g (aI hcur).1).trans hcur;refine⟨_,hown,fun h hh=>?_⟩;rcases List.mem_append.1 hh with hh | hh
 ·exact⟨(hall h hh).1,((hall h hh).2.keep (Bel.alloc wM o)).ae2 hg r⟩
 ·simp at hh;subst hh;exact⟨⟨_,_,rfl⟩,(hnew.keep (Bel.alloc wM o)).ae2 hg r⟩
theorem HdUp.mat {w:World}{lo V g n cap:Nat}(h:HdUp w lo V (sq g 0 n cap) n):abp w lo g n V (fun _=>[]):=by
 obtain⟨hs,⟨hl,⟨h0,_⟩ | ⟨g',cap',cur,hv,hlo,hg,h1,h2,h3,h4⟩⟩,hr⟩:=h
 ·cases h0
 ·cases hv
  refine⟨hlo,cur,hg,by omega,fun i hi=>?_⟩;have r:i<hs.length:=by omega
  obtain⟨⟨g',cap',e⟩,ho⟩:=hr hs[i] (List.getElem_mem r);have e2:=congrArg (fun m=>m[i]?) h4;rw[List.getElem?_take,if_pos (by omega),List.getElem?_eq_getElem r] at e2;rw[e] at e2 ho;exact⟨g',cap',by simpa using e2,ho⟩
def Diff (m:Bool)(l k:List Int)(z:Nat)(r:Bool):Prop:=r=true↔(m=true∨∃q:Nat,q<z∧¬((q:Int)∈l↔(q:Int)∈k))
theorem adg {m:Bool}{l k:List Int}{z:Nat}{r t1 t2:Bool}(h:Diff m l k z r)(h1:decide ((z:Int)∈l)=t1)(h2:decide ((z:Int)∈k)=t2):Diff m l k (z+1) (r || (t1 != t2)):=by
 subst h1;subst h2;unfold Diff at h ⊢;rw[Bool.or_eq_true,h];have e:(decide ((z:Int)∈l) != decide ((z:Int)∈k))=true↔¬((z:Int)∈l↔(z:Int)∈k):=by
  by_cases a:(z:Int)∈l <;> by_cases b:(z:Int)∈k <;> simp[a,b]
 rw[e];constructor
 ·rintro((h | ⟨q,h1,h2⟩) | h)
  ·exact .inl h
  ·exact .inr ⟨q,by omega,h2⟩
  ·exact .inr ⟨z,by omega,h⟩
 ·rintro(h | ⟨q,h1,h2⟩)
  ·exact .inl (.inl h)
  ·by_cases e:q=z
   ·subst e;exact .inr h2
   ·exact .inl (.inr ⟨q,by omega,h2⟩)
def GivesMat (w:World)(n V:Nat)(ls:Nat→List Int)(e:Ending)(w':World):Prop := ∃g cap,e=.returned (sq g 0 n cap)∧abp w' w.heap.size g n V ls∧Below w.heap.size w w'
theorem ahu : (Tryz.prog.info? 56).map (fun i=>(i.zero,i.size,i.bytes))=some (some (.slice none 0 0),1,24):=by kernel_rfl
theorem ahv (v:Value)(F:FnD)(n V:Nat)(w:World)(hF:kJ w v F)(hP:Je F n V) :
  Calls Tryz.prog 40 #[v] w fun e w'=>GivesMat w n V (qz F) e w':=by
 have HF:Hid (kJ w v F):=hF;have HP:Hid (Je F n V):=hP;obtain⟨ba,bcap,rfl⟩:=hF.out hP.len hP.vals;have aK:=hP.n1;have aC:=hP.n16;have ay:=hP.v80;obtain⟨i0,hi,hz0,ao,hz2⟩:=info_parts ahu;have aJ:2000000≤maxLen:=by decide
 clear hF hP;obtain⟨wA,hwA⟩:∃wA,w.alloc (.cells #[.slice ba n bcap,vi V] 26)=wA:=⟨_,rfl⟩;have BA:Hid (Below w.heap.size w wA):=by rw[←hwA];exact Bel.alloc _ _
 have aE:wA.heap.size=w.heap.size+1:=by rw[←hwA];simp
 have a0:wA.cell? (Z w.heap.size 0)=some (.slice ba n bcap):=by rw[←hwA];simp[go_sem]
 have a1:wA.cell? (Z w.heap.size 1)=some (vi V):=by rw[←hwA];simp[go_sem]
 obtain⟨wB,hwB⟩:∃wB,wA.alloc (.cells #[] 56)=wB:=⟨_,rfl⟩;have BB:Hid (Below wA.heap.size wA wB):=by rw[←hwB];exact Bel.alloc _ _
 have aM:wB.heap.size=w.heap.size+2:=by rw[←hwB];simp;omega
 have UB:Hid (HdUp wB (w.heap.size+1) V (sq (w.heap.size+1) 0 0 0) 0):=by
  have h9:HdUp wB (w.heap.size+1) V (sq (w.heap.size+1) 0 0 0) 0:=by
   rw[←hwB,←aE];exact⟨[],World.ownsRow_made wA #[] 0 (by omega) (by omega) rfl,fun h hh=>by cases hh⟩
  exact h9
 have b0:=Bel.keeps BB.out a0;have b1:=Bel.keeps BB.out a1;go_enter Tryz.func40,Tryz.ntmps40
 go_wp2_with fail
 go_loopw [3,4] (fun mv i wr=>∃(k g cap:Nat),k≤n∧i=vi k∧mv=sq g 0 k cap∧HdUp wr (w.heap.size+1) V (sq g 0 k cap) k∧Below (w.heap.size+1) wB wr) (fun _ i _=>n-(intOf i).toNat)
 case atStart=>exact⟨0,w.heap.size+1,0,Nat.zero_le _,rfl,rfl,UB.out,Below.refl _ _⟩
 case round=>
  obtain⟨wq,hwq⟩:∃x,x=wr:=⟨_,rfl⟩;subst hwq;obtain⟨k,g,cap,hk,rfl,rfl,hup,hbq⟩:=hrel;have UP:Hid (HdUp wq (w.heap.size+1) V (sq g 0 k cap) k):=hup;have BQ:Hid (Below (w.heap.size+1) wB wq):=hbq;have f0:wq.cell? (Z w.heap.size 0)=some (.slice ba n bcap):=(hbq.cell (p:=(Z w.heap.size 0)) (by simp)).trans b0;have f1:wq.cell? (Z w.heap.size 1)=some (vi V):=(hbq.cell (p:=(Z w.heap.size 1)) (by simp)).trans b1;have aO:=hbq.size;clear hup hbq;by_cases aH:(k:Int)<(n:Int)
  ·have aB:=Jf V (by omega) wq;obtain⟨wM,hwM⟩:∃wM,wq.alloc (.cells (madeCells #[.bool false] V) 4)=wM:=⟨_,rfl⟩;rw[hwM] at aB;have BM:Hid (Below wq.heap.size wq wM):=by rw[←hwM];exact Bel.alloc _ _
   have OM:Hid (ji wM (w.heap.size+1) (sq wq.heap.size 0 V V) (bitsOf V [])):=by rw[←hwM];exact Qy V _ (by omega) wq (by omega)
   have aN:wM.heap.size=wq.heap.size+1:=by rw[←hwM];simp
   clear hwM;obtain⟨hs,hrow,hall⟩:=UP.out;have J:Hid (wM.ownsRow (w.heap.size+1) 56 1 (sq g 0 k cap) k hs):=KP hrow BM.out;have ab:Hid (∀h∈hs,(∃g' cap',h=sq g' 0 V cap')∧ji wM (w.heap.size+1) h (bitsOf V [])):=fun h hh=>⟨(hall h hh).1,(hall h hh).2.keep BM.out⟩
   clear hrow hall;go_wp2_with (at_builtin;refine wpList_append_own _ rfl _ _ 54 rfl (w.heap.size+1) 56 i0 (.slice none 0 0) 1 24 Tryz.underlying54 hi hz0 ao hz2 rfl (by decide) (.slice (some ⟨g,0,none⟩) k cap) k hs rfl (World.ownsRow.alloc J.out _) ⟨wM.heap.size,0,none⟩ 1 1 [.slice (some ⟨wq.heap.size,0,none⟩) V V] (by simp[Act.eval]) rfl (by have:=cell_one_new wM (.slice (some ⟨wq.heap.size,0,none⟩) V V) 56;simpa using this) (by simp[Value.oneCell']) (by omega) (by omega) (by simp;omega) ?_;intro v' wa I H _;obtain⟨g',cap',rfl⟩:=ownsRow_succ I)
   have UA:Hid (HdUp wa (w.heap.size+1) V (sq g' 0 (k+1) cap') (k+1)):=(aht J.out ab.out OM.out I H);have ap:Hid (Below (w.heap.size+1) wB wa):=BQ.out.trans ((BM.out.mono (by omega)).trans ((((Below.refl (w.heap.size+1) wM).alloc (by omega) _).grown H (by simp;omega) (fun j ej=>by have:=(World.ownsRow.lt J.out j ej).1;omega))));go_roundw
   case rel=>exact⟨k+1,g',cap',by omega,by simp,rfl,UA.out,ap.out⟩
   case measure=>simp[intOf];omega
  ·have ax:n=k:=by omega
   subst ax;have M0:=UP.out.mat;have au:Hid (abp wq (w.heap.size+1) g n V (fun _=>[])):=M0;clear M0;go_wp2_with fail
   go_loopg [5] (JD n (fun _=>[])+1) (fun G mr wr=>∃(m:Bool) (ins:Nat→List Int),mr=.bool m∧ad1 F ins∧(∀b,∀z∈ins b,z<(V:Int))∧abp wr (w.heap.size+1) g n V ins∧Below (w.heap.size+1) wB wr∧(m=false→∀i,i<n→inF F ins i=ins i)∧JD n ins+(if m then 1 else 0)≤G)
   case atStart=>exact⟨true,fun _=>[],rfl,abl F,fun _ z hz=>(by cases hz),au.out,BQ.out,fun h=>(by cases h),by simp⟩
   case round=>
    obtain⟨wp,hwp⟩:∃x,x=wr:=⟨_,rfl⟩;subst hwp;obtain⟨m,ins,rfl,hok,hvs,hmat,hbp,hend,hG⟩:=hrel;have OK:Hid (ad1 F ins):=hok;have VS:Hid (∀b,∀z∈ins b,z<(V:Int)):=hvs;have MP:Hid (abp wp (w.heap.size+1) g n V ins):=hmat;have BP:Hid (Below (w.heap.size+1) wB wp):=hbp;have ac:Hid (m=false→∀i,i<n→inF F ins i=ins i):=hend;have ar:Hid (JD n ins+(if m then 1 else 0)≤_):=hG;have g0:wp.cell? (Z w.heap.size 0)=some (.slice ba n bcap):=(hbp.cell (p:=(Z w.heap.size 0)) (by simp)).trans b0;clear hok hvs hmat hbp hend hG;cases m
    ·go_wp2_with fail
     go_ret;have e:=OK.out.eq (fun b hb=>ac.out (by simp) b (by rw[←HP.out.len];exact hb));have h9:=MP.out;rw[e] at h9;exact⟨g,cap,rfl,⟨by have:=h9.low;omega,by obtain⟨cur,q1,q2,q3⟩:=h9.box;exact⟨cur,q1,q2,fun i hi=>by obtain⟨g',cap',r1,r2⟩:=q3 i hi;exact⟨g',cap',r1,r2.low (by omega)⟩⟩⟩,(Bel.after BA.out BB.out).trans (BP.out.mono (by omega))⟩
    ·go_wp2_with fail
     go_loopw [5,6] (fun mr i wr=>∃(m':Bool) (j:Nat) (is:Nat→List Int),j≤n∧i=vi ((j:Int)-1)∧mr=.bool m'∧ad1 F is∧(∀b,∀z∈is b,z<(V:Int))∧abp wr (w.heap.size+1) g n V is∧Below (w.heap.size+1) wB wr∧JD n is+(if m' then 1 else 0)≤JD n ins∧(m'=false→∀q,j≤q→q<n→inF F is q=is q)) (fun _ i _=>(intOf i+1).toNat)
     case atStart=>exact⟨false,n,ins,Nat.le_refl _,rfl,rfl,OK.out,VS.out,MP.out,BP.out,by simp,fun _ q h1 h2=>absurd h2 (by omega)⟩
     case round=>
      obtain⟨wx,hwx⟩:∃x,x=wr:=⟨_,rfl⟩;subst hwx;obtain⟨m',j,is,hj,rfl,rfl,hok2,hvs2,hmat2,hbx,hroom,hrd⟩:=hrel;have M:Hid (ad1 F is):=hok2;have O:Hid (∀b,∀z∈is b,z<(V:Int)):=hvs2;have MX:Hid (abp wx (w.heap.size+1) g n V is):=hmat2;have BX:Hid (Below (w.heap.size+1) wB wx):=hbx;have B:Hid (JD n is+(if m' then 1 else 0)≤JD n ins):=hroom;have ai:Hid (m'=false→∀q,j≤q→q<n→inF F is q=is q):=hrd;have x0:wx.cell? (Z w.heap.size 0)=some (.slice ba n bcap):=(hbx.cell (p:=(Z w.heap.size 0)) (by simp)).trans b0;have x1:wx.cell? (Z w.heap.size 1)=some (vi V):=(hbx.cell (p:=(Z w.heap.size 1)) (by simp)).trans b1;clear hok2 hvs2 hmat2 hbx hroom hrd;cases j with
      | zero=>
       obtain⟨z,hz⟩:∃z:Int,((0:Nat):Int)-1=z:=⟨_,rfl⟩;rw[hz];have ao:z<0:=by omega
       clear hz;go_wp2_with fail
       go_roundg (JD n is+(if m' then 1 else 0))
       case measure=>
        have h1:=B.out;have h2:=ar.out;simp at h2;omega
       case rel=>exact⟨m',is,rfl,M.out,O.out,MX.out,BX.out,fun h q hq=>ai.out h q (Nat.zero_le _) hq,Nat.le_refl _⟩
      | succ c=>
       rw[show((c+1:Nat):Int)-1=(c:Int) by omega];have U:c<n:=by omega
       have ak:c<F.blocks.length:=by rw[HP.out.len];exact U
       obtain⟨x,HX⟩:∃x,Hid (F.blocks[c]?=some x):=⟨F.blocks[c],List.getElem?_eq_getElem ak⟩;have aj:kJ wx (.agg #[.slice ba n bcap,vi V]) F:=HF.out.later ((Bel.after BA.out BB.out).trans (BX.out.mono (by omega)));have aq:Hid (Calls Tryz.prog 50 #[.agg #[.slice ba n bcap,vi V],vi c,vi 0,sq g 0 n cap] wx fun e w'=>zV wx V (inF F is c) e w'):=by
        have h9:=Xg _ F c n V g cap 0 is wx aj HP.out.len HP.out.vals ay U (HP.out.su c) MX.out.at x HX.out (HP.out.ends c x HX.out) (HP.out.uses c x HX.out) (Nat.zero_le _);rw[←aiM HX.out] at h9;exact h9
       have aG:(c:Int)<(n:Int):=by omega
       clear ak aj;go_wp2_with (go_at_call 50;refine aq.out.mono ?_;rintro e w2 ⟨g2,cap2,rfl,hO2,hb2⟩;have O2:Hid (ji w2 (w.heap.size+1) (sq g2 0 V cap2) (bitsOf V (inF F is c))):=hO2.low (by have:=MX.out.lt;have:=MX.out.low;omega);have B2:Hid (Below wx.heap.size wx w2):=hb2;have M2:Hid (abp w2 (w.heap.size+1) g n V is):=MX.out.keep hb2;have z1:=Bel.keeps hb2 x1;clear hO2 hb2)
       obtain⟨go,capo,hgo,hold⟩:∃go capo,w2.cell? (Z g c)=some (sq go 0 V capo)∧ji w2 (w.heap.size+1) (sq go 0 V capo) (bitsOf V (is c)):=by
        obtain⟨cur,q1,q2,q3⟩:=M2.out.box;obtain⟨g',cap',r1,r2⟩:=q3 c U;exact⟨g',cap',by simp[World.cell?,q1,r1],r2⟩
       have ad:Hid (ji w2 (w.heap.size+1) (sq go 0 V capo) (bitsOf V (is c))):=hold;clear hold;go_loopw [5,8] (fun mr i wr=>∃(z:Nat) (mv:Bool),z≤V∧i=vi z∧mr=.bool mv∧Diff m' (inF F is c) (is c) z mv∧Below w2.heap.size w2 wr) (fun _ i _=>V-(intOf i).toNat)
       case atStart=>exact⟨0,m',Nat.zero_le _,rfl,rfl,⟨fun h=>.inl h,fun h=>h.elim id (fun⟨q,h1,_⟩=>absurd h1 (by omega))⟩,Below.refl _ _⟩
       case round=>
        obtain⟨wz,hwz⟩:∃x,x=wr:=⟨_,rfl⟩;subst hwz;obtain⟨z,mv,hz,rfl,rfl,hmv,hbz⟩:=hrel;have L:Hid (Diff m' (inF F is c) (is c) z mv):=hmv;have BZ:Hid (Below w2.heap.size w2 wz):=hbz;have z2:=Bel.keeps hbz z1;have r2:=Bel.keeps hbz hgo;clear hmv hbz;by_cases aP:(z:Int)<(V:Int)
        ·have ah:z<V:=by omega
         obtain⟨_,_,_,_,hcA,_⟩:=O2.out.cells;obtain⟨_,_,_,_,hcB,_⟩:=ad.out.cells;have r1:=Bel.keeps BZ.out (hcA z ah);have r3:=Bel.keeps BZ.out (hcB z ah);rw[Qx _ ah] at r1 r3;obtain⟨t1,HT1⟩:∃t,Hid (decide ((z:Int)∈inF F is c)=t):=⟨_,rfl⟩;obtain⟨t2,HT2⟩:∃t,Hid (decide ((z:Int)∈is c)=t):=⟨_,rfl⟩;rw[HT1.out] at r1;rw[HT2.out] at r3;clear hcA hcB;cases mv
         ·go_wp2_with fail
          refine wp_region_held_drew (S:=(fun w'=>w'.cell? (Z g2 z)=some (.bool t1)∧w'.cell? (Z g c)=some (sq go 0 V capo)∧w'.cell? (Z go z)=some (.bool t2))) (by kernel_rfl) ⟨r1,r2,r3⟩ (fun hHeld=>?_);refine tkA 0 ⟨some 42,.move (.tmp 5),4,"l11_live.go:62",#[],none⟩ ?_ (fun w h=>?_) ?_;rotate_left
          ·(try dsimp only at h);go_simp;(try with_reducible rfl)
          try simp only[Act.put,sT,sZ,sS]
          refine tkA 1 ⟨some 43,.move (.tmp 42),4,"l11_live.go:62",#[⟨0,.data⟩],none⟩ ?_ (fun w h=>?_) ?_;rotate_left
          ·(try dsimp only at h);go_simp;(try with_reducible rfl)
          try simp only[Act.put,sT,sZ,sS]
          refine tkA 2 ⟨some 44,.move (.tmp 7),56,"l11_live.go:62",#[⟨1,.guard⟩],some (1,false)⟩ ?_ (fun w h=>?_) ?_;rotate_left
          ·(try dsimp only at h);go_simp;(try with_reducible rfl)
          try simp only[Act.put,sT,sZ,sS]
          refine tkA 3 ⟨some 45,.move (.tmp 8),3,"l11_live.go:62",#[⟨1,.guard⟩],some (1,false)⟩ ?_ (fun w h=>?_) ?_;rotate_left
          ·(try dsimp only at h);go_simp;(try with_reducible rfl)
          try simp only[Act.put,sT,sZ,sS]
          refine tkA 4 ⟨some 46,.indexAddr 56 (.tmp 44) (.tmp 45),0,"l11_live.go:62",#[⟨2,.data⟩,⟨3,.data⟩,⟨1,.guard⟩],some (1,false)⟩ ?_ (fun w h=>?_) ?_;rotate_left
          ·(try dsimp only at h);go_simp;(try with_reducible rfl)
          try simp only[Act.put,sT,sZ,sS]
          refine tkA 5 ⟨some 47,.load 4 (.tmp 46),4,"l11_live.go:62",#[⟨4,.data⟩,⟨1,.guard⟩],some (1,false)⟩ ?_ (fun w h=>?_) ?_;rotate_left
          ·(try dsimp only at h);go_simp;(try with_reducible rfl)
          try simp only[Act.put,sT,sZ,sS]
          refine tkA 6 ⟨some 48,.move (.tmp 3),54,"l11_live.go:62",#[⟨1,.guard⟩],some (1,false)⟩ ?_ (fun w h=>?_) ?_;rotate_left
          ·(try dsimp only at h);go_simp;(try with_reducible rfl)
          try simp only[Act.put,sT,sZ,sS]
          refine tkA 7 ⟨some 49,.move (.tmp 6),3,"l11_live.go:62",#[⟨1,.guard⟩],some (1,false)⟩ ?_ (fun w h=>?_) ?_;rotate_left
          ·(try dsimp only at h);go_simp;(try with_reducible rfl)
          try simp only[Act.put,sT,sZ,sS]
          refine tkA 8 ⟨some 50,.indexAddr 54 (.tmp 48) (.tmp 49),0,"l11_live.go:62",#[⟨6,.data⟩,⟨7,.data⟩,⟨1,.guard⟩],some (1,false)⟩ ?_ (fun w h=>?_) ?_;rotate_left
          ·(try dsimp only at h);go_simp;(try with_reducible rfl)
          try simp only[Act.put,sT,sZ,sS]
          refine tkA 9 ⟨some 51,.load 56 (.tmp 50),56,"l11_live.go:62",#[⟨8,.data⟩,⟨1,.guard⟩],some (1,false)⟩ ?_ (fun w h=>?_) ?_;rotate_left
          ·(try dsimp only at h);go_simp;(try with_reducible rfl)
          try simp only[Act.put,sT,sZ,sS]
          refine tkA 10 ⟨some 52,.move (.tmp 8),3,"l11_live.go:62",#[⟨1,.guard⟩],some (1,false)⟩ ?_ (fun w h=>?_) ?_;rotate_left
          ·(try dsimp only at h);go_simp;(try with_reducible rfl)
          try simp only[Act.put,sT,sZ,sS]
          refine tkA 11 ⟨some 53,.indexAddr 56 (.tmp 51) (.tmp 52),0,"l11_live.go:62",#[⟨9,.data⟩,⟨10,.data⟩,⟨1,.guard⟩],some (1,false)⟩ ?_ (fun w h=>?_) ?_;rotate_left
          ·(try dsimp only at h);go_simp;(try with_reducible rfl)
          try simp only[Act.put,sT,sZ,sS]
          refine tkA 12 ⟨some 54,.load 4 (.tmp 53),4,"l11_live.go:62",#[⟨11,.data⟩,⟨1,.guard⟩],some (1,false)⟩ ?_ (fun w h=>?_) ?_;rotate_left
          ·(try dsimp only at h);go_simp;(try with_reducible rfl)
          try simp only[Act.put,sT,sZ,sS]
          refine tkA 13 ⟨some 55,.binOp .neq 4 (.tmp 47) (.tmp 54) 4,4,"l11_live.go:62",#[⟨5,.data⟩,⟨12,.data⟩,⟨1,.guard⟩],some (1,false)⟩ ?_ (fun w h=>?_) ?_;rotate_left
          ·(try dsimp only at h);go_simp;(try with_reducible rfl)
          try simp only[Act.put,sT,sZ,sS]
          refine tkA 14 ⟨some 56,.pick (.tmp 43) (.const (.bool true)) (.tmp 55),4,"l11_live.go:62",#[⟨1,.data⟩,⟨13,.data⟩],none⟩ ?_ (fun w h=>?_) ?_;rotate_left
          ·(try dsimp only at h);go_simp;(try with_reducible rfl)
          try simp only[Act.put,sT,sZ,sS]
          refine tkA 15 ⟨some 5,.assign (.tmp 56),4,"l11_live.go:62",#[⟨14,.data⟩,⟨1,.chain⟩,⟨0,.phase⟩,⟨1,.phase⟩,⟨2,.phase⟩,⟨3,.phase⟩,⟨4,.phase⟩,⟨5,.phase⟩,⟨6,.phase⟩,⟨7,.phase⟩,⟨8,.phase⟩,⟨9,.phase⟩,⟨10,.phase⟩,⟨11,.phase⟩,⟨12,.phase⟩,⟨13,.phase⟩,⟨14,.phase⟩],none⟩ ?_ (fun w h=>?_) ?_;rotate_left
          ·(try dsimp only at h);go_simp;(try with_reducible rfl)
          try simp only[Act.put,sT,sZ,sS]
          refine wpAnyH_done (by kernel_rfl) ?_ _;clear hHeld;simp only[Exit.inBlock,Exit.then]
          go_at_K
          go_wp2_with fail
          go_roundw
          case rel=>exact⟨z+1,_,by omega,by simp,by rfl,(by have:=L.out;have:=HT1.out;have:=HT2.out;exact adg L.out HT1.out HT2.out),BZ.out.trans (Below.refl _ _).drew⟩
          case measure=>simp[intOf];omega
         ·go_wp2_with fail
          refine wp_region_held_drew (S:=(fun w'=>w'.cell? (Z g2 z)=some (.bool t1)∧w'.cell? (Z g c)=some (sq go 0 V capo)∧w'.cell? (Z go z)=some (.bool t2))) (by kernel_rfl) ⟨r1,r2,r3⟩ (fun hHeld=>?_);refine tkA 0 ⟨some 42,.move (.tmp 5),4,"l11_live.go:62",#[],none⟩ ?_ (fun w h=>?_) ?_;rotate_left
          ·(try dsimp only at h);go_simp;(try with_reducible rfl)
          try simp only[Act.put,sT,sZ,sS]
          refine tkA 1 ⟨some 43,.move (.tmp 42),4,"l11_live.go:62",#[⟨0,.data⟩],none⟩ ?_ (fun w h=>?_) ?_;rotate_left
          ·(try dsimp only at h);go_simp;(try with_reducible rfl)
          try simp only[Act.put,sT,sZ,sS]
          refine wpAnyH_take (i:=2) (oi:=⟨some 44,.move (.tmp 7),56,"l11_live.go:62",#[⟨1,.guard⟩],some (1,false)⟩) (v:=undef) rfl (by kernel_rfl) (by kernel_rfl) (by kernel_rfl) (fun _ _ _ h=>h) (Or.inr ⟨by rfl,rfl⟩) (by assumption) ?_;try simp only[Act.put,sT,sZ,sS]
          refine wpAnyH_take (i:=3) (oi:=⟨some 45,.move (.tmp 8),3,"l11_live.go:62",#[⟨1,.guard⟩],some (1,false)⟩) (v:=undef) rfl (by kernel_rfl) (by kernel_rfl) (by kernel_rfl) (fun _ _ _ h=>h) (Or.inr ⟨by rfl,rfl⟩) (by assumption) ?_;try simp only[Act.put,sT,sZ,sS]
          refine wpAnyH_take (i:=4) (oi:=⟨some 46,.indexAddr 56 (.tmp 44) (.tmp 45),0,"l11_live.go:62",#[⟨2,.data⟩,⟨3,.data⟩,⟨1,.guard⟩],some (1,false)⟩) (v:=undef) rfl (by kernel_rfl) (by kernel_rfl) (by kernel_rfl) (fun _ _ _ h=>h) (Or.inr ⟨by rfl,rfl⟩) (by assumption) ?_;try simp only[Act.put,sT,sZ,sS]
          refine wpAnyH_take (i:=5) (oi:=⟨some 47,.load 4 (.tmp 46),4,"l11_live.go:62",#[⟨4,.data⟩,⟨1,.guard⟩],some (1,false)⟩) (v:=undef) rfl (by kernel_rfl) (by kernel_rfl) (by kernel_rfl) (fun _ _ _ h=>h) (Or.inr ⟨by rfl,rfl⟩) (by assumption) ?_;try simp only[Act.put,sT,sZ,sS]
          refine wpAnyH_take (i:=6) (oi:=⟨some 48,.move (.tmp 3),54,"l11_live.go:62",#[⟨1,.guard⟩],some (1,false)⟩) (v:=undef) rfl (by kernel_rfl) (by kernel_rfl) (by kernel_rfl) (fun _ _ _ h=>h) (Or.inr ⟨by rfl,rfl⟩) (by assumption) ?_;try simp only[Act.put,sT,sZ,sS]
          refine wpAnyH_take (i:=7) (oi:=⟨some 49,.move (.tmp 6),3,"l11_live.go:62",#[⟨1,.guard⟩],some (1,false)⟩) (v:=undef) rfl (by kernel_rfl) (by kernel_rfl) (by kernel_rfl) (fun _ _ _ h=>h) (Or.inr ⟨by rfl,rfl⟩) (by assumption) ?_;try simp only[Act.put,sT,sZ,sS]
          refine wpAnyH_take (i:=8) (oi:=⟨some 50,.indexAddr 54 (.tmp 48) (.tmp 49),0,"l11_live.go:62",#[⟨6,.data⟩,⟨7,.data⟩,⟨1,.guard⟩],some (1,false)⟩) (v:=undef) rfl (by kernel_rfl) (by kernel_rfl) (by kernel_rfl) (fun _ _ _ h=>h) (Or.inr ⟨by rfl,rfl⟩) (by assumption) ?_;try simp only[Act.put,sT,sZ,sS]
          refine wpAnyH_take (i:=9) (oi:=⟨some 51,.load 56 (.tmp 50),56,"l11_live.go:62",#[⟨8,.data⟩,⟨1,.guard⟩],some (1,false)⟩) (v:=undef) rfl (by kernel_rfl) (by kernel_rfl) (by kernel_rfl) (fun _ _ _ h=>h) (Or.inr ⟨by rfl,rfl⟩) (by assumption) ?_;try simp only[Act.put,sT,sZ,sS]
          refine wpAnyH_take (i:=10) (oi:=⟨some 52,.move (.tmp 8),3,"l11_live.go:62",#[⟨1,.guard⟩],some (1,false)⟩) (v:=undef) rfl (by kernel_rfl) (by kernel_rfl) (by kernel_rfl) (fun _ _ _ h=>h) (Or.inr ⟨by rfl,rfl⟩) (by assumption) ?_;try simp only[Act.put,sT,sZ,sS]
          refine wpAnyH_take (i:=11) (oi:=⟨some 53,.indexAddr 56 (.tmp 51) (.tmp 52),0,"l11_live.go:62",#[⟨9,.data⟩,⟨10,.data⟩,⟨1,.guard⟩],some (1,false)⟩) (v:=undef) rfl (by kernel_rfl) (by kernel_rfl) (by kernel_rfl) (fun _ _ _ h=>h) (Or.inr ⟨by rfl,rfl⟩) (by assumption) ?_;try simp only[Act.put,sT,sZ,sS]
          refine wpAnyH_take (i:=12) (oi:=⟨some 54,.load 4 (.tmp 53),4,"l11_live.go:62",#[⟨11,.data⟩,⟨1,.guard⟩],some (1,false)⟩) (v:=undef) rfl (by kernel_rfl) (by kernel_rfl) (by kernel_rfl) (fun _ _ _ h=>h) (Or.inr ⟨by rfl,rfl⟩) (by assumption) ?_;try simp only[Act.put,sT,sZ,sS]
          refine wpAnyH_take (i:=13) (oi:=⟨some 55,.binOp .neq 4 (.tmp 47) (.tmp 54) 4,4,"l11_live.go:62",#[⟨5,.data⟩,⟨12,.data⟩,⟨1,.guard⟩],some (1,false)⟩) (v:=undef) rfl (by kernel_rfl) (by kernel_rfl) (by kernel_rfl) (fun _ _ _ h=>h) (Or.inr ⟨by rfl,rfl⟩) (by assumption) ?_;try simp only[Act.put,sT,sZ,sS]
          refine tkA 14 ⟨some 56,.pick (.tmp 43) (.const (.bool true)) (.tmp 55),4,"l11_live.go:62",#[⟨1,.data⟩,⟨13,.data⟩],none⟩ ?_ (fun w h=>?_) ?_;rotate_left
          ·(try dsimp only at h);go_simp;(try with_reducible rfl)
          try simp only[Act.put,sT,sZ,sS]
          refine tkA 15 ⟨some 5,.assign (.tmp 56),4,"l11_live.go:62",#[⟨14,.data⟩,⟨1,.chain⟩,⟨0,.phase⟩,⟨1,.phase⟩,⟨2,.phase⟩,⟨3,.phase⟩,⟨4,.phase⟩,⟨5,.phase⟩,⟨6,.phase⟩,⟨7,.phase⟩,⟨8,.phase⟩,⟨9,.phase⟩,⟨10,.phase⟩,⟨11,.phase⟩,⟨12,.phase⟩,⟨13,.phase⟩,⟨14,.phase⟩],none⟩ ?_ (fun w h=>?_) ?_;rotate_left
          ·(try dsimp only at h);go_simp;(try with_reducible rfl)
          try simp only[Act.put,sT,sZ,sS]
          refine wpAnyH_done (by kernel_rfl) ?_ _;clear hHeld;simp only[Exit.inBlock,Exit.then]
          go_at_K
          go_wp2_with fail
          go_roundw
          case rel=>exact⟨z+1,true,by omega,by simp,by rfl,(by have:=L.out;have:=HT1.out;have:=HT2.out;exact adg L.out HT1.out HT2.out),BZ.out.trans (Below.refl _ _).drew⟩
          case measure=>simp[intOf];omega
        ·have ae:V=z:=by omega
         have X:Diff m' (inF F is c) (is c) V mv:=by rw[ae];exact L.out
         have MZ:=M2.out.keep BZ.out;obtain⟨⟨u,p1⟩,p2,p3⟩:=MZ.put U (O2.out.keep BZ.out);have aw:Hid (abp (wz.setCell (Z g c) (sq g2 0 V cap2)) (w.heap.size+1) g n V (xT is c (inF F is c))):=p3;have K:Hid (Diff m' (inF F is c) (is c) V mv):=X;have aF:Hid (V=z):=ae;clear MZ p3 X ae;go_wp2_with fail
         obtain⟨az,hl2⟩:=M.out.longer c;have aA:(inF F is c).length≤80:=xB (Qa F is c).1 (Qa F is c).2;have aL:=aeW (n:=n) (ins:=is) U (l:=inF F is c) az aA;have af:Below (w.heap.size+1) wB (wz.setCell (Z g c) (sq g2 0 V cap2)):=(BX.out.trans ((B2.out.mono (by have:=BX.out.size;omega)).trans (BZ.out.mono (by have:=BX.out.size;have:=B2.out.size;omega)))).setCell (p:=(Z g c)) MX.out.low _;have ag:∀b,∀z∈xT is c (inF F is c) b,z<(V:Int):=fun b z aa=>by
          unfold xT at aa;split at aa
          ·exact HP.out.inV O.out c z aa
          ·exact O.out b z aa
         have an:=B.out;have r:JD n (xT is c (inF F is c))+(if mv then 1 else 0)≤JD n ins∧(mv=false→∀q,c≤q→q<n→inF F (xT is c (inF F is c)) q=xT is c (inF F is c) q):=by
          cases mv
          ·have am:¬(m'=true∨∃q:Nat,q<V∧¬((q:Int)∈inF F is c↔(q:Int)∈is c)):=fun h=>by have:=K.out.2 h;cases this
           have heq:inF F is c=is c:=bits_inj (Qa F is c).1 (M.out.asc c) (Qa F is c).2 (M.out.small c) (HP.out.inV O.out c) (O.out c) (fun q hq=>Classical.not_not.1 (fun h9=>am (.inr ⟨q,hq,h9⟩)));have hm:m'=false:=by cases m';rfl;exact absurd (Or.inl rfl) am
           rw[heq,Ko];refine⟨by subst hm;simpa using an,fun _ q h1 h2=>?_⟩;by_cases e:q=c
           ·subst e;exact heq
           ·exact ai.out hm q (by omega) h2
          ·refine⟨?_,fun h=>by cases h⟩;rcases K.out.1 rfl with h | ⟨q,hq,h9⟩
           ·subst h;simp at an ⊢;omega
           ·have aD:inF F is c≠is c:=fun e=>h9 (by rw[e])
            have:¬(inF F is c).length≤(is c).length:=fun e=>aD (hl2 e)
            simp;omega
         refine⟨⟨mv,c,xT is c (inF F is c),by omega,rfl,rfl,M.out.step c,ag,aw.out,af,r.1,r.2⟩,?_⟩;show((c:Int)-1+1).toNat<((c:Int)+1).toNat;omega
end Go.Proofs.YtkbhbekfniadhaaGreat
