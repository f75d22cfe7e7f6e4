/- What is used, of the model: marks. What is used, of the model: a round over the blocks. What is used, of the model: all rounds. What is used: bits for the law over drawn programs. -/
import Derived.Test.YtinlfjgabkodcaaGreatDoorKUsC
import Derived.Test.YtinlfjgabkodcaaGreatDoorKEdge
import Derived.Test.YtinlfjgabkodcaaGreatDoorKCkT
namespace Go.Proofs.YtinlfjgabkodcaaGreatDoor
open Go.ChangeShapes Go.WideShapes Go.ChangeAt Go.RowKit
set_option linter.unusedVariables false
set_option maxRecDepth 100000
def markF (f:Nat→Bool)(l:List Int):Nat→Bool:=fun i=>f i || decide ((i:Int)∈l)
theorem markF_nil (f:Nat→Bool):markF f []=f:=by funext i;simp[markF]
def newIn (f:Nat→Bool)(l:List Int):Bool:=l.any (fun v=>!(f v.toNat))
theorem markF_same {f:Nat→Bool}{l:List Int}(hl:∀v∈l,0≤v)(h:newIn f l=false):markF f l=f∧∀v∈l,f v.toNat=true:=by
 have h1:∀v∈l,f v.toNat=true:=fun v hv=>by
  cases hf:f v.toNat with
  | true=>rfl
  | false=>
   have:newIn f l=true:=List.any_eq_true.2 ⟨v,hv,by simp[hf]⟩
   rw[h] at this
   cases this
 refine⟨?_,h1⟩
 funext i
 unfold markF
 by_cases hi:(i:Int)∈l
 ·have:=h1 _ hi
  simp at this
  simp[hi,this]
 ·simp[hi]
theorem markF_step {f:Nat→Bool}{l:List Int}{v:Int}(hv:0≤v):markF (markF f l) [v]=markF f (l ++ [v]):=by
 funext i
 simp[markF,Bool.or_assoc]
theorem newIn_snoc {f:Nat→Bool}{l:List Int}{v:Int}(hl:∀u∈l,0≤u)(hv:0≤v):newIn f (l ++ [v])=(newIn f l || !(markF f l v.toNat)):=by
 unfold newIn
 rw[List.any_append]
 simp only[List.any_cons,List.any_nil,Bool.or_false]
 by_cases hm:v∈l
 ·cases hf:f v.toNat with
  | true=>simp[markF,hf]
  | false=>
   have:(l.any fun v=>!f v.toNat)=true:=List.any_eq_true.2 ⟨v,hm,by simp[hf]⟩
   simp[this]
 ·obtain⟨n,rfl⟩:=Int.eq_ofNat_of_zero_le hv
  have e:((n:Int).toNat)=n:=rfl
  rw[e]
  unfold markF
  rw[decide_eq_false hm,Bool.or_false]
set_option maxHeartbeats 4000000 in
theorem l7Mark_any (lo g vn:Nat)(f:Nat→Bool)(lv:Value)(l:List Int)(w:World)(hu:OwnBools w lo (.slice (some ⟨g,0,none⟩) vn vn) (listB vn f))(hl:IntsAt w lv l)(hs:∀v∈l,0≤v∧v<(vn:Int))(hv:vn≤100)(hne:∀a,lv.ownBlock=some a→a≠g) :
  Calls Tryz.prog 136 #[.slice (some ⟨g,0,none⟩) vn vn,lv] w fun e w'=>e = .returned (.bool (newIn f l))∧OwnBools w' lo (.slice (some ⟨g,0,none⟩) vn vn) (listB vn (markF f l))∧Fr g w w':=by
 have HU:Hid (OwnBools w lo (.slice (some ⟨g,0,none⟩) vn vn) (listB vn f)):=hu
 have HS:Hid (∀v∈l,0≤v∧v<(vn:Int)):=hs
 obtain⟨a,cap,rfl,hlm,hc⟩:=hl
 obtain⟨m,HL⟩:∃m,Hid (l.length=m):=⟨_,rfl⟩
 obtain⟨R,HR⟩:∃R,Hid (newIn f l=R):=⟨_,rfl⟩
 rw[HL.out] at hlm hc hne ⊢
 rw[HR.out]
 have HC:Hid (0<m→∃b off,a=some ⟨b,off,none⟩∧∀i,i<m→w.cell? ⟨b,off+i,none⟩=some (.int .i64 (l.getD i 0))):=hc
 have HNE:Hid (∀b,(Value.slice a m cap).ownBlock=some b→b≠g):=hne
 clear hu hs hc hne
 go_enter Tryz.func136,Tryz.ntmps136
 go_wp2_with fail
 go_loopw [5,6] (fun t i wr=>∃k:Nat,k≤m∧i = .int .i64 k∧t = .bool (newIn f (l.take k))∧OwnBools wr lo (.slice (some ⟨g,0,none⟩) vn vn) (listB vn (markF f (l.take k)))∧Fr g w wr) (fun _ i _=>m-(intOf i).toNat)
 case atStart=>exact⟨0,Nat.zero_le _,rfl,by simp[newIn],by rw[List.take_zero,markF_nil];exact HU.out,Fr.refl _ _⟩
 case round=>
  obtain⟨k,hk,rfl,rfl,ho,hF⟩:=hrel
  have HF:Hid (Fr g w wr):=hF
  obtain⟨f1,HF1⟩:∃q,Hid (markF f (l.take k)=q):=⟨_,rfl⟩
  obtain⟨N1,HN1⟩:∃q,Hid (newIn f (l.take k)=q):=⟨_,rfl⟩
  rw[HF1.out] at ho
  rw[HN1.out]
  have HO:Hid (OwnBools wr lo (.slice (some ⟨g,0,none⟩) vn vn) (listB vn f1)):=ho
  by_cases hlt:(k:Int)<(m:Int)
  ·obtain⟨b,off,rfl,hc1⟩:=HC.out (by omega)
   have q0:=hc1 k (by omega)
   have hbg:b≠g:=HNE.out b rfl
   have hblt:=World.block_lt_of_cell? w _ q0
   have q1:wr.cell? ⟨b,off+k,none⟩=some (.int .i64 (l.getD k 0)):=by rw[HF.out.cell (x:=⟨b,off+k,none⟩) hblt hbg];exact q0
   obtain⟨x,hx⟩:∃x,l[k]? = some x:=⟨_,List.getElem?_eq_getElem (by have:=HL.out;omega)⟩
   have hgd:l.getD k 0=x:=by rw[List.getD_eq_getElem?_getD,hx];rfl
   rw[hgd] at q1
   obtain⟨hx0,hxv⟩:=HS.out x (List.mem_of_getElem? hx)
   obtain⟨xn,rfl⟩:=Int.eq_ofNat_of_zero_le hx0
   have HTK:Hid (l.take (k+1)=l.take k ++ [(xn:Int)]):=by show _=_;rw[List.take_add_one,hx];rfl
   have HNW:Hid (newIn f (l.take (k+1))=(N1 || !(f1 xn))):=by
    show _=_
    rw[HTK.out,newIn_snoc (fun u hu=>(HS.out u (List.mem_of_mem_take hu)).1) hx0,HN1.out,HF1.out]
    simp
   have HMK:Hid (markF f (l.take (k+1))=markF f1 [(xn:Int)]):=by show _=_;rw[HTK.out,←HF1.out,markF_step hx0]
   have c0:=ho.cellAt (listB_len _ _) (i:=xn) (by omega)
   rw[listB_at _ _ (by omega)] at c0
   have fz:=frozen_of_cells ho.heapOf xn
   obtain⟨q,HQ⟩:∃q,Hid (f1 xn=q):=⟨_,rfl⟩
   rw[HQ.out] at c0
   clear ho hF q0 hc1 hx hgd
   cases q with
   | true=>
    go_wp2_with fail
    go_roundw
    case rel=>
     refine⟨k+1,by omega,by go_num,?_,?_,HF.out⟩
     ·rw[HNW.out,HQ.out];simp
     ·rw[HMK.out]
      have e:markF f1 [(xn:Int)]=f1:=by
       funext i
       unfold markF
       by_cases e:i=xn
       ·subst e;simp[HQ.out]
       ·have:¬((i:Int)=(xn:Int)):=by omega
        simp[this]
      rw[e]
      exact HO.out
    case measure=>simp[intOf];omega
   | false=>
    go_wp2_with fail
    go_roundw
    case rel=>
     refine⟨k+1,by omega,by go_num,?_,?_,HF.out.setCell _ _⟩
     ·rw[HNW.out,HQ.out];simp
     ·rw[HMK.out]
      have h9:=HO.out.setAt (d:=xn) (by omega) true
      rw[listB_set] at h9
      have e:updB f1 xn true=markF f1 [(xn:Int)]:=by
       funext i
       unfold markF updB
       by_cases e:i=xn
       ·subst e;simp
       ·have:¬((i:Int)=(xn:Int)):=by omega
        simp[this,e]
      rw[e] at h9
      exact h9
    case measure=>simp[intOf];omega
  ·have hkm:k=m:=by omega
   subst hkm
   have HE:Hid (l.take k=l):=by show _=_;rw[List.take_of_length_le (by have:=HL.out;omega)]
   obtain rfl:N1=R:=by rw[←HN1.out,←HR.out,HE.out]
   clear ho hF
   go_wp2_with fail
   go_ret
   refine⟨rfl,?_,HF.out⟩
   have h9:=HO.out
   rw[←HF1.out,HE.out] at h9
   exact h9
set_option maxRecDepth 100000
def InF (vn:Nat)(f:Nat→Bool)(v:Int):Prop:=0≤v∧v<(vn:Int)∧f v.toNat=true
structure RSt (F:FnD)(vn:Nat)(f0:Nat→Bool)(M:Bool)(f:Nat→Bool)(P:Prop):Prop where
 mono:∀i,f0 i=true→f i=true
 sound:(∀v,InF vn f0 v→UsedV F v)→∀v,InF vn f v→UsedV F v
 grow:M=true→∃i,i<vn∧f0 i=false∧f i=true
 still:M=false→f=f0∧P
theorem RSt.imp {F:FnD}{vn:Nat}{f0:Nat→Bool}{M:Bool}{f:Nat→Bool}{P Q:Prop}(h:RSt F vn f0 M f P)(k:f=f0→P→Q):RSt F vn f0 M f Q :=
 ⟨h.mono,h.sound,h.grow,fun hm=>⟨(h.still hm).1,k (h.still hm).1 (h.still hm).2⟩⟩
theorem RSt.mark {F:FnD}{vn:Nat}{f0:Nat→Bool}{M:Bool}{f:Nat→Bool}{P:Prop}(h:RSt F vn f0 M f P){l:List Int}(hl:∀v∈l,0≤v∧v<(vn:Int))(hs:(∀v,InF vn f v→UsedV F v)→∀v∈l,UsedV F v){N:Bool}(hN:newIn f l=N):RSt F vn f0 (M || N) (markF f l) (P∧∀v∈l,InF vn f0 v):=by
 subst hN
 refine⟨fun i hi=>?_,fun hu v hv=>?_,fun hm=>?_,fun hm=>?_⟩
 ·simp[markF,h.mono i hi]
 ·obtain⟨h0,h1,h2⟩:=hv
  obtain⟨n,rfl⟩:=Int.eq_ofNat_of_zero_le h0
  unfold markF at h2
  by_cases hm:(n:Int)∈l
  ·exact hs (h.sound hu) _ hm
  ·rw[show((n:Int).toNat)=n from rfl,decide_eq_false hm,Bool.or_false] at h2
   exact h.sound hu _ ⟨h0,h1,h2⟩
 ·cases hM:M with
  | true=>
   obtain⟨i,h1,h2,h3⟩:=h.grow hM
   exact⟨i,h1,h2,by simp[markF,h3]⟩
  | false=>
   rw[hM,Bool.false_or] at hm
   obtain⟨v,hv,hf⟩:=List.any_eq_true.1 hm
   obtain⟨h0,h1⟩:=hl v hv
   obtain⟨n,rfl⟩:=Int.eq_ofNat_of_zero_le h0
   have e:=(h.still hM).1
   subst e
   refine⟨n,by omega,by simpa using hf,by simp[markF,hv]⟩
 ·obtain⟨h1,h2⟩:=Bool.or_eq_false_iff.1 hm
  obtain⟨rfl,hp⟩:=h.still h1
  obtain⟨h3,h4⟩:=markF_same (fun v hv=>(hl v hv).1) h2
  exact⟨h3,hp,fun v hv=>⟨(hl v hv).1,(hl v hv).2,h4 v hv⟩⟩
def RAt (w1 wr:World)(lo g vn:Nat)(F:FnD)(f0:Nat→Bool)(t:Value)(P:Prop):Prop :=
 ∃f M,t = .bool M∧OwnBools wr lo (.slice (some ⟨g,0,none⟩) vn vn) (listB vn f)∧RSt F vn f0 M f P∧Fr g w1 wr
def RulesL (vn:Nat)(f0:Nat→Bool)(l:List InsD):Prop := ∀y∈l,Takes y (InF vn f0)→∀v∈usesV y.op y.a y.b,InF vn f0 v
def RulesP (vn:Nat)(f0:Nat→Bool)(l:List PhiD):Prop := ∀p∈l,InF vn f0 p.d→∀a∈p.arms,InF vn f0 a.v
def RulesA (vn:Nat)(f0:Nat→Bool)(p:PhiD)(l:List ArmD):Prop:=InF vn f0 p.d→∀a∈l,InF vn f0 a.v
def RulesB (vn:Nat)(f0:Nat→Bool)(l:List BlockD):Prop := ∀x∈l,ClosedIn x (InF vn f0)
theorem takeNext2 {α:Type}{l:List α}{j:Nat}{y:α}(hy:l[j]? = some y):l.take (j+1)=l.take j ++ [y]:=by rw[List.take_add_one,hy];rfl
theorem rulesL_next {vn:Nat}{f0:Nat→Bool}{l:List InsD}{j:Nat}{y:InsD}(h:RulesL vn f0 (l.take j))(hy:l[j]? = some y)(h1:Takes y (InF vn f0)→∀v∈usesV y.op y.a y.b,InF vn f0 v):RulesL vn f0 (l.take (j+1)):=by
 rw[takeNext2 hy]
 intro z hz
 rcases List.mem_append.1 hz with hz | hz
 ·exact h z hz
 ·obtain rfl:=List.mem_singleton.1 hz
  exact h1
theorem rulesP_next {vn:Nat}{f0:Nat→Bool}{l:List PhiD}{j:Nat}{y:PhiD}(h:RulesP vn f0 (l.take j))(hy:l[j]? = some y)(h1:RulesA vn f0 y y.arms):RulesP vn f0 (l.take (j+1)):=by
 rw[takeNext2 hy]
 intro z hz
 rcases List.mem_append.1 hz with hz | hz
 ·exact h z hz
 ·obtain rfl:=List.mem_singleton.1 hz
  exact h1
theorem rulesA_next {vn:Nat}{f0:Nat→Bool}{p:PhiD}{l:List ArmD}{j:Nat}{y:ArmD}(h:RulesA vn f0 p (l.take j))(hy:l[j]? = some y)(h1:InF vn f0 y.v):RulesA vn f0 p (l.take (j+1)):=by
 rw[takeNext2 hy]
 intro hp z hz
 rcases List.mem_append.1 hz with hz | hz
 ·exact h hp z hz
 ·obtain rfl:=List.mem_singleton.1 hz
  exact h1
theorem rulesB_next {vn:Nat}{f0:Nat→Bool}{l:List BlockD}{j:Nat}{y:BlockD}(h:RulesB vn f0 (l.take j))(hy:l[j]? = some y)(h1:ClosedIn y (InF vn f0)):RulesB vn f0 (l.take (j+1)):=by
 rw[takeNext2 hy]
 intro z hz
 rcases List.mem_append.1 hz with hz | hz
 ·exact h z hz
 ·obtain rfl:=List.mem_singleton.1 hz
  exact h1
theorem takes_sound {F:FnD}{x:BlockD}{vn:Nat}{f:Nat→Bool}(hx:x∈F.blocks)(hw:WellB F.values x)(hvn:(vn:Int)=F.values){y:InsD}(hy:y∈x.list)(hc:(21≤y.op∧y.op≤23)∨(0≤insDefV y.op y.d∧f (insDefV y.op y.d).toNat=true))(hu:∀v,InF vn f v→UsedV F v):∀v∈usesV y.op y.a y.b,UsedV F v:=by
 intro v hv
 have hr:=(hw.ins y hy).2.2
 have hn:=hw.nocopy y hy
 have hd:=(hw.ins y hy).2.1
 by_cases h1:21≤y.op∧y.op≤23
 ·exact(used_closed F x hx).ins y hy (.inl h1) v hv
 ·by_cases h2:1≤y.op∧y.op≤10
  ·refine(used_closed F x hx).ins y hy (.inr ⟨h2.1,h2.2,hu _ ?_⟩) v hv
   rcases hc with hc | ⟨h3,h4⟩
   ·exact absurd hc h1
   ·rw[insDefV_word h2.1 h2.2] at h3 h4
    exact⟨h3,by have:=hd (.inl h2);omega,h4⟩
  ·have he:usesV y.op y.a y.b = []:=by
    unfold usesV
    rw[if_neg (by omega),if_neg (by omega)]
   rw[he] at hv
   cases hv
theorem takes_skip {vn:Nat}{f0:Nat→Bool}{y:InsD}(hc:¬(21≤y.op∧y.op≤23))(h:insDefV y.op y.d<0∨f0 (insDefV y.op y.d).toNat=false):¬Takes y (InF vn f0):=by
 rintro(ht | ⟨h1,h2,h3,h4,h5⟩)
 ·exact hc ht
 ·rw[insDefV_word h1 h2] at h
  rcases h with h | h
  ·omega
  ·rw[h5] at h
   cases h
theorem RowNew.off {w:World}{b g:Nat}{v:Value}{l:List Int}(h:RowNew w b v l)(hg:g<b):∀a,v.ownBlock=some a→a≠g:=by
 obtain⟨rfl,_⟩:=h
 intro a ha
 have:b=a:=by simpa [Value.ownBlock] using ha
 omega
set_option maxHeartbeats 8000000 in
theorem l7Round_any (v:Value)(F:FnD)(lo g vn:Nat)(f0:Nat→Bool)(w0 w:World)(hF:FnAt w0 v F)(hS:FnShape F)(hC:¬CopyIn F)(hvn:(vn:Int)=F.values)(hb:Below w0.heap.size w0 w)(hg:w0.heap.size≤g)(hu:OwnBools w lo (.slice (some ⟨g,0,none⟩) vn vn) (listB vn f0)) :
  Calls Tryz.prog 73 #[v,.slice (some ⟨g,0,none⟩) vn vn] w fun e w'=>∃t,e = .returned t∧RAt w w' lo g vn F f0 t (RulesB vn f0 F.blocks):=by
 have HF:Hid (FnAt w0 v F):=hF
 have HS:Hid (FnShape F):=hS
 have HCI:Hid (¬CopyIn F):=hC
 have HU:Hid (OwnBools w lo (.slice (some ⟨g,0,none⟩) vn vn) (listB vn f0)):=hu
 have HB:Hid (Below w0.heap.size w0 w):=hb
 have HG:Hid (w0.heap.size≤g):=hg
 have HGW:Hid (g<w.heap.size):=by show g<_;obtain⟨c,hc⟩:=hu.heapOf;exact(Array.getElem?_eq_some_iff.1 hc).1
 obtain⟨n,HN⟩:∃n,Hid (F.blocks.length=n):=⟨_,rfl⟩
 obtain⟨ba,bcap,rfl⟩:=hF.out HN.out hvn.symm
 have hn16:n≤16:=by have:=hS.2.1;have:=HN.out;omega
 have hv80:vn≤80:=by have:=hS.2.2.2.1;omega
 have HVN:Hid ((vn:Int)=F.values):=hvn
 clear hF hS hvn hC hu hb hg
 go_enter Tryz.func73,Tryz.ntmps73
 go_wp2_with fail
 obtain⟨w1,hw1⟩:∃W,w.alloc (.cells #[.slice ba n bcap,.int .i64 (vn:Int)] 26)=W:=⟨_,rfl⟩
 obtain⟨X,HX⟩:∃X,Hid (w.heap.size=X):=⟨_,rfl⟩
 have HGX:Hid (g<X):=by show g<X;rw[←HX.out];exact HGW.out
 have C1:Hid (w1.cell? ⟨X,0,none⟩=some (.slice ba n bcap)):=by show _=_;rw[←hw1,←HX.out];simp[go_sem]
 have S1:Hid (w1.heap.size=X+1):=by show _=_;rw[←hw1,←HX.out];simp
 have F1:Hid (Fr g w w1):=by show Fr _ _ _;rw[←hw1];exact(Fr.refl _ _).alloc _
 have R1:Hid (RAt w1 w1 lo g vn F f0 (.bool false) True):=by
  refine⟨f0,false,rfl,?_,⟨fun _ h=>h,fun h=>h,fun h=>by simp at h,fun _=>⟨rfl,trivial⟩⟩,Fr.refl _ _⟩
  rw[←hw1]
  exact HU.out.keep (Bel.alloc _ _)
 have B1:Hid (Below w0.heap.size w0 w1):=Below.trans HB.out (by rw[←hw1];exact(Bel.alloc _ _).mono HB.out.size)
 rw[hw1,HX.out]
 clear hw1 HU
 go_loopw [5,6] (fun t i wr=>∃k:Nat,k≤n∧i = .int .i64 (k:Int)∧RAt w1 wr lo g vn F f0 t (RulesB vn f0 (F.blocks.take k))) (fun _ i _=>n-(intOf i).toNat)
 case atStart=>
  obtain⟨f,M,h1,h2,h3,h4⟩:=R1.out
  exact⟨0,Nat.zero_le _,rfl,f,M,h1,h2,h3.imp (fun _ _ x hx=>by simp at hx),h4⟩
 case round=>
  obtain⟨k,hk,rfl,f,M,rfl,hO,hR,hFr⟩:=hrel
  have HO:Hid (OwnBools wr lo (.slice (some ⟨g,0,none⟩) vn vn) (listB vn f)):=hO
  have HR:Hid (RSt F vn f0 M f (RulesB vn f0 (F.blocks.take k))):=hR
  have HFr:Hid (Fr g w1 wr):=hFr
  have cr:wr.cell? ⟨X,0,none⟩=some (.slice ba n bcap):=(hFr.cell (x:=⟨X,0,none⟩) (by show X<_;rw[S1.out];omega) (by show X≠g;have:=HGX.out;omega)).trans C1.out
  have BR:Hid (Below w0.heap.size w0 wr):=Below.trans B1.out (hFr.below HG.out B1.out.size)
  clear hO hR hFr
  by_cases hlt:(k:Int)<(n:Int)
  ·have hkn:k<n:=by omega
   obtain⟨x,hx⟩:∃x,F.blocks[k]? = some x:=⟨_,List.getElem?_eq_getElem (by have:=HN.out;omega)⟩
   have HXK:Hid (F.blocks[k]? = some x):=hx
   obtain⟨b,off,rfl,hat⟩:=HF.out.blockC HN.out hkn hx
   have HW:Hid (WellB F.values x):=well_block HS.out HCI.out (List.mem_of_getElem? hx)
   have HXM:Hid (x∈F.blocks):=List.mem_of_getElem? hx
   obtain⟨np,HNP⟩:∃n,Hid (x.phis.length=n):=⟨_,rfl⟩
   obtain⟨nl,HNL⟩:∃n,Hid (x.list.length=n):=⟨_,rfl⟩
   have hnp:np≤24:=by have:=(HS.out.2.2.2.2 k x hx).1;have:=HNP.out;omega
   have hnl:nl≤24:=by have:=(HS.out.2.2.2.2 k x hx).2.1;have:=HNL.out;omega
   obtain⟨pv,lv,b0,b1,t0,t1,t2,t3,hps,hls⟩:=hat
   have HPS:Hid (ListAt 0 2 (PhiAt 0) w0 pv x.phis):=hps
   obtain⟨pa,pcap,rfl,hpm,_⟩:=hps
   rw[HNP.out] at b0 hpm HPS
   have HLS:Hid (ListAt 0 5 InsAt w0 lv x.list):=hls
   obtain⟨la,lcap,rfl,hlm,_⟩:=hls
   rw[HNL.out] at b1 hlm HLS
   obtain⟨tk,HTK⟩:∃q,Hid (x.term.k=q):=⟨_,rfl⟩
   obtain⟨ta,HTA⟩:∃q,Hid (x.term.a=q):=⟨_,rfl⟩
   obtain⟨tt,HTT⟩:∃q,Hid (x.term.t=q):=⟨_,rfl⟩
   obtain⟨te,HTE⟩:∃q,Hid (x.term.e=q):=⟨_,rfl⟩
   rw[HTK.out] at t0
   rw[HTA.out] at t1
   rw[HTT.out] at t2
   rw[HTE.out] at t3
   replace b0:=Bel.keeps BR.out b0
   replace b1:=Bel.keeps BR.out b1
   replace t0:=Bel.keeps BR.out t0
   replace t1:=Bel.keeps BR.out t1
   replace t2:=Bel.keeps BR.out t2
   replace t3:=Bel.keeps BR.out t3
   clear hx
   go_wp2_with fail
   obtain⟨w2,hw2⟩:∃W,wr.alloc (.cells #[.slice pa np pcap,.slice la nl lcap,.int .i64 tk,.int .i64 ta,.int .i64 tt,.int .i64 te] 35)=W:=⟨_,rfl⟩
   obtain⟨Y,HY0⟩:∃X,Hid (wr.heap.size=X):=⟨_,rfl⟩
   have HGY:Hid (g<Y):=by show g<Y;rw[←HY0.out];have:=HFr.out.size;have:=S1.out;have:=HGX.out;omega
   have P0:Hid (w2.cell? ⟨Y,0,none⟩=some (.slice pa np pcap)):=by show _=_;rw[←hw2,←HY0.out];simp[go_sem]
   have P1:Hid (w2.cell? ⟨Y,1,none⟩=some (.slice la nl lcap)):=by show _=_;rw[←hw2,←HY0.out];simp[go_sem]
   have P2:Hid (w2.cell? ⟨Y,2,none⟩=some (.int .i64 tk)):=by show _=_;rw[←hw2,←HY0.out];simp[go_sem]
   have P3:Hid (w2.cell? ⟨Y,3,none⟩=some (.int .i64 ta)):=by show _=_;rw[←hw2,←HY0.out];simp[go_sem]
   have P4:Hid (w2.cell? ⟨Y,4,none⟩=some (.int .i64 tt)):=by show _=_;rw[←hw2,←HY0.out];simp[go_sem]
   have P5:Hid (w2.cell? ⟨Y,5,none⟩=some (.int .i64 te)):=by show _=_;rw[←hw2,←HY0.out];simp[go_sem]
   have S2:Hid (w2.heap.size=Y+1):=by show _=_;rw[←hw2,←HY0.out];simp
   have F2:Hid (Fr g w1 w2):=by show Fr _ _ _;rw[←hw2];exact HFr.out.alloc _
   have O2:Hid (OwnBools w2 lo (.slice (some ⟨g,0,none⟩) vn vn) (listB vn f)):=by show OwnBools _ _ _ _;rw[←hw2];exact HO.out.keep (Bel.alloc _ _)
   have B2:Hid (Below w0.heap.size w0 w2):=Below.trans B1.out (F2.out.below HG.out B1.out.size)
   have KY:Hid (∀w',Fr g w2 w'→∀o u,w2.cell? ⟨Y,o,none⟩=some u→w'.cell? ⟨Y,o,none⟩=some u):=fun w' hf o u hc=>(hf.cell (x:=⟨Y,o,none⟩) (by show Y<_;rw[S2.out];omega) (by show Y≠g;have:=HGY.out;omega)).trans hc
   have BY:Hid (∀w',Fr g w2 w'→Below w0.heap.size w0 w'):=fun w' hf=>Below.trans B2.out (hf.below HG.out B2.out.size)
   try rw[HY0.out]
   rw[hw2]
   clear hw2 b0 b1 t0 t1 t2 t3 cr HO
   go_loopw [5,8] (fun t i wr=>∃j:Nat,j≤nl∧i = .int .i64 (j:Int)∧RAt w2 wr lo g vn F f0 t (RulesB vn f0 (F.blocks.take k)∧RulesL vn f0 (x.list.take j))) (fun _ i _=>nl-(intOf i).toNat)
   case atStart=>exact⟨0,Nat.zero_le _,rfl,f,M,rfl,O2.out,HR.out.imp (fun _ h=>⟨h,fun y hy=>by simp at hy⟩),Fr.refl _ _⟩
   case round=>
    obtain⟨j,hj,rfl,f2,M2,rfl,hO,hR,hFr⟩:=hrel
    have HO2:Hid (OwnBools wr lo (.slice (some ⟨g,0,none⟩) vn vn) (listB vn f2)):=hO
    have HR2:Hid (RSt F vn f0 M2 f2 (RulesB vn f0 (F.blocks.take k)∧RulesL vn f0 (x.list.take j))):=hR
    have HF2:Hid (Fr g w2 wr):=hFr
    have c1:=KY.out _ hFr 1 _ P1.out
    have BS:Hid (Below w0.heap.size w0 wr):=BY.out _ hFr
    clear hO hR hFr
    by_cases hltj:(j:Int)<(nl:Int)
    ·obtain⟨y,hy⟩:∃y,x.list[j]? = some y:=⟨_,List.getElem?_eq_getElem (by have:=HNL.out;omega)⟩
     obtain⟨lb,loff,rfl,q0,q1,q2,q3,q4⟩:=listAt_at (places_keep HLS.out (Keeps.of_below BS.out 0)) hy
     have HY:Hid (x.list[j]? = some y):=hy
     have HYM:Hid (y∈x.list):=List.mem_of_getElem? hy
     clear hy
     obtain⟨op,d,a,b',nn⟩:=y
     dsimp only at q0 q1 q2 q3 q4
     have HDR:Hid (∀m:Nat,insDefV op d=(m:Int)→m<vn):=fun m hm=>by
      have h9:=(HW.out.ins _ HYM.out).2.1
      have hvv:=HVN.out
      dsimp only at h9
      by_cases hmk:makesV op=true
      ·rw[insDefV,if_pos hmk] at hm
       simp only[makesV,decide_eq_true_eq] at hmk
       have:=h9 (by omega)
       omega
      ·rw[insDefV,if_neg hmk] at hm
       omega
     go_wp2_with fail
     refine(spec_insDef _ _ _ _ _ _).mono ?_
     rintro e w4 ⟨rfl,b4⟩
     have F4:Hid (Fr g w2 w4):=HF2.out.trans (Fr.ofBelow b4)
     have HO4:Hid (OwnBools w4 lo (.slice (some ⟨g,0,none⟩) vn vn) (listB vn f2)):=HO2.out.keep b4
     have G4:Hid (g<w4.heap.size):=by show g<_;have:=F4.out.size;have:=S2.out;have:=HGY.out;omega
     replace c1:=Bel.keeps b4 c1
     replace q0:=Bel.keeps b4 q0
     replace q1:=Bel.keeps b4 q1
     replace q2:=Bel.keeps b4 q2
     replace q3:=Bel.keeps b4 q3
     replace q4:=Bel.keeps b4 q4
     clear b4
     obtain⟨dd,HDD⟩:∃q,Hid (insDefV op d=q):=⟨_,rfl⟩
     rw[HDD.out]
     by_cases h21:op=21
     ·subst h21
      go_wp2_with fail
      refine(spec_insUses _ _ _ _ _ _).mono ?_
      rintro e w5 ⟨uv,uk,rfl,huk,hru,b5⟩
      have F5:Hid (Fr g w2 w5):=F4.out.trans (Fr.ofBelow b5)
      have O5:=HO4.out.keep b5
      have hne:=hru.off (g:=g) (by have:=G4.out;omega)
      have hat5:=hru.at
      have hs5:∀v∈usesV 21 a b',0≤v∧v<(vn:Int):=fun v hv=>by have:=(HW.out.ins _ HYM.out).1 v hv;have:=HVN.out;omega
      have R6:Hid (∀N,newIn f2 (usesV 21 a b')=N→RSt F vn f0 (M2 || N) (markF f2 (usesV 21 a b')) (RulesB vn f0 (F.blocks.take k)∧RulesL vn f0 (x.list.take (j+1)))):=fun N hN=>(HR2.out.mark hs5 (takes_sound HXM.out HW.out HVN.out HYM.out (.inl (by simp))) hN).imp (fun _ h=>⟨h.1.1,rulesL_next h.1.2 HY.out (fun _=>h.2)⟩)
      obtain⟨N,HNN⟩:∃N,Hid (newIn f2 (usesV 21 a b')=N):=⟨_,rfl⟩
      clear hru b5 huk
      go_wp2_with fail
      refine(l7Mark_any lo g vn f2 uv (usesV 21 a b') _ O5 hat5 hs5 (by omega) hne).mono ?_
      rw[HNN.out]
      rintro e w6 ⟨rfl,o6,f6⟩
      have O6:Hid (OwnBools w6 lo (.slice (some ⟨g,0,none⟩) vn vn) (listB vn (markF f2 (usesV 21 a b')))):=o6
      have F6:Hid (Fr g w2 w6):=F5.out.trans f6
      have R7:Hid (RSt F vn f0 (M2 || N) (markF f2 (usesV 21 a b')) (RulesB vn f0 (F.blocks.take k)∧RulesL vn f0 (x.list.take (j+1)))):=R6.out N HNN.out
      clear o6 f6 O5 hat5 hs5 hne
      cases N with
      | true=>
       rw[Bool.or_true] at R7
       go_wp2_with fail
       go_roundw
       case rel=>exact⟨j+1,by omega,by go_num,_,_,rfl,O6.out,R7.out,F6.out⟩
       case measure=>simp[intOf];omega
      | false=>
       rw[Bool.or_false] at R7
       go_wp2_with fail
       go_roundw
       case rel=>exact⟨j+1,by omega,by go_num,_,_,rfl,O6.out,R7.out,F6.out⟩
       case measure=>simp[intOf];omega
     ·by_cases h22:op=22
      ·subst h22
       go_wp2_with fail
       refine(spec_insUses _ _ _ _ _ _).mono ?_
       rintro e w5 ⟨uv,uk,rfl,huk,hru,b5⟩
       have F5:Hid (Fr g w2 w5):=F4.out.trans (Fr.ofBelow b5)
       have O5:=HO4.out.keep b5
       have hne:=hru.off (g:=g) (by have:=G4.out;omega)
       have hat5:=hru.at
       have hs5:∀v∈usesV 22 a b',0≤v∧v<(vn:Int):=fun v hv=>by have:=(HW.out.ins _ HYM.out).1 v hv;have:=HVN.out;omega
       have R6:Hid (∀N,newIn f2 (usesV 22 a b')=N→RSt F vn f0 (M2 || N) (markF f2 (usesV 22 a b')) (RulesB vn f0 (F.blocks.take k)∧RulesL vn f0 (x.list.take (j+1)))):=fun N hN=>(HR2.out.mark hs5 (takes_sound HXM.out HW.out HVN.out HYM.out (.inl (by simp))) hN).imp (fun _ h=>⟨h.1.1,rulesL_next h.1.2 HY.out (fun _=>h.2)⟩)
       obtain⟨N,HNN⟩:∃N,Hid (newIn f2 (usesV 22 a b')=N):=⟨_,rfl⟩
       clear hru b5 huk
       go_wp2_with fail
       refine(l7Mark_any lo g vn f2 uv (usesV 22 a b') _ O5 hat5 hs5 (by omega) hne).mono ?_
       rw[HNN.out]
       rintro e w6 ⟨rfl,o6,f6⟩
       have O6:Hid (OwnBools w6 lo (.slice (some ⟨g,0,none⟩) vn vn) (listB vn (markF f2 (usesV 22 a b')))):=o6
       have F6:Hid (Fr g w2 w6):=F5.out.trans f6
       have R7:Hid (RSt F vn f0 (M2 || N) (markF f2 (usesV 22 a b')) (RulesB vn f0 (F.blocks.take k)∧RulesL vn f0 (x.list.take (j+1)))):=R6.out N HNN.out
       clear o6 f6 O5 hat5 hs5 hne
       cases N with
       | true=>
        rw[Bool.or_true] at R7
        go_wp2_with fail
        go_roundw
        case rel=>exact⟨j+1,by omega,by go_num,_,_,rfl,O6.out,R7.out,F6.out⟩
        case measure=>simp[intOf];omega
       | false=>
        rw[Bool.or_false] at R7
        go_wp2_with fail
        go_roundw
        case rel=>exact⟨j+1,by omega,by go_num,_,_,rfl,O6.out,R7.out,F6.out⟩
        case measure=>simp[intOf];omega
      ·by_cases h23:op=23
       ·subst h23
        go_wp2_with fail
        refine(spec_insUses _ _ _ _ _ _).mono ?_
        rintro e w5 ⟨uv,uk,rfl,huk,hru,b5⟩
        have F5:Hid (Fr g w2 w5):=F4.out.trans (Fr.ofBelow b5)
        have O5:=HO4.out.keep b5
        have hne:=hru.off (g:=g) (by have:=G4.out;omega)
        have hat5:=hru.at
        have hs5:∀v∈usesV 23 a b',0≤v∧v<(vn:Int):=fun v hv=>by have:=(HW.out.ins _ HYM.out).1 v hv;have:=HVN.out;omega
        have R6:Hid (∀N,newIn f2 (usesV 23 a b')=N→RSt F vn f0 (M2 || N) (markF f2 (usesV 23 a b')) (RulesB vn f0 (F.blocks.take k)∧RulesL vn f0 (x.list.take (j+1)))):=fun N hN=>(HR2.out.mark hs5 (takes_sound HXM.out HW.out HVN.out HYM.out (.inl (by simp))) hN).imp (fun _ h=>⟨h.1.1,rulesL_next h.1.2 HY.out (fun _=>h.2)⟩)
        obtain⟨N,HNN⟩:∃N,Hid (newIn f2 (usesV 23 a b')=N):=⟨_,rfl⟩
        clear hru b5 huk
        go_wp2_with fail
        refine(l7Mark_any lo g vn f2 uv (usesV 23 a b') _ O5 hat5 hs5 (by omega) hne).mono ?_
        rw[HNN.out]
        rintro e w6 ⟨rfl,o6,f6⟩
        have O6:Hid (OwnBools w6 lo (.slice (some ⟨g,0,none⟩) vn vn) (listB vn (markF f2 (usesV 23 a b')))):=o6
        have F6:Hid (Fr g w2 w6):=F5.out.trans f6
        have R7:Hid (RSt F vn f0 (M2 || N) (markF f2 (usesV 23 a b')) (RulesB vn f0 (F.blocks.take k)∧RulesL vn f0 (x.list.take (j+1)))):=R6.out N HNN.out
        clear o6 f6 O5 hat5 hs5 hne
        cases N with
        | true=>
         rw[Bool.or_true] at R7
         go_wp2_with fail
         go_roundw
         case rel=>exact⟨j+1,by omega,by go_num,_,_,rfl,O6.out,R7.out,F6.out⟩
         case measure=>simp[intOf];omega
        | false=>
         rw[Bool.or_false] at R7
         go_wp2_with fail
         go_roundw
         case rel=>exact⟨j+1,by omega,by go_num,_,_,rfl,O6.out,R7.out,F6.out⟩
         case measure=>simp[intOf];omega
       ·have HOP:Hid (¬(21≤op∧op≤23)):=by show ¬_;omega
        by_cases hd0:0≤dd
        ·obtain⟨m,rfl⟩:=Int.eq_ofNat_of_zero_le hd0
         have hmv:m<vn:=HDR.out m HDD.out
         have hmv2:(m:Int)<(vn:Int):=by omega
         have g0:=HO4.out.cellAt (listB_len _ _) (i:=m) hmv
         rw[listB_at _ _ hmv] at g0
         obtain⟨Q,HQ⟩:∃q,Hid (f2 m=q):=⟨_,rfl⟩
         rw[HQ.out] at g0
         cases Q with
         | true=>
           go_wp2_with fail
           refine(spec_insUses _ _ _ _ _ _).mono ?_
           rintro e w5 ⟨uv,uk,rfl,huk,hru,b5⟩
           have F5:Hid (Fr g w2 w5):=F4.out.trans (Fr.ofBelow b5)
           have O5:=HO4.out.keep b5
           have hne:=hru.off (g:=g) (by have:=G4.out;omega)
           have hat5:=hru.at
           have hs5:∀v∈usesV op a b',0≤v∧v<(vn:Int):=fun v hv=>by have:=(HW.out.ins _ HYM.out).1 v hv;have:=HVN.out;omega
           have R6:Hid (∀N,newIn f2 (usesV op a b')=N→RSt F vn f0 (M2 || N) (markF f2 (usesV op a b')) (RulesB vn f0 (F.blocks.take k)∧RulesL vn f0 (x.list.take (j+1)))):=fun N hN=>(HR2.out.mark hs5 (takes_sound HXM.out HW.out HVN.out HYM.out (.inr ⟨by show 0≤insDefV op d;rw[HDD.out];omega,by show f2 (insDefV op d).toNat=true;rw[HDD.out];exact HQ.out⟩)) hN).imp (fun _ h=>⟨h.1.1,rulesL_next h.1.2 HY.out (fun _=>h.2)⟩)
           obtain⟨N,HNN⟩:∃N,Hid (newIn f2 (usesV op a b')=N):=⟨_,rfl⟩
           clear hru b5 huk
           go_wp2_with fail
           refine(l7Mark_any lo g vn f2 uv (usesV op a b') _ O5 hat5 hs5 (by omega) hne).mono ?_
           rw[HNN.out]
           rintro e w6 ⟨rfl,o6,f6⟩
           have O6:Hid (OwnBools w6 lo (.slice (some ⟨g,0,none⟩) vn vn) (listB vn (markF f2 (usesV op a b')))):=o6
           have F6:Hid (Fr g w2 w6):=F5.out.trans f6
           have R7:Hid (RSt F vn f0 (M2 || N) (markF f2 (usesV op a b')) (RulesB vn f0 (F.blocks.take k)∧RulesL vn f0 (x.list.take (j+1)))):=R6.out N HNN.out
           clear o6 f6 O5 hat5 hs5 hne
           cases N with
           | true=>
            rw[Bool.or_true] at R7
            go_wp2_with fail
            go_roundw
            case rel=>exact⟨j+1,by omega,by go_num,_,_,rfl,O6.out,R7.out,F6.out⟩
            case measure=>simp[intOf];omega
           | false=>
            rw[Bool.or_false] at R7
            go_wp2_with fail
            go_roundw
            case rel=>exact⟨j+1,by omega,by go_num,_,_,rfl,O6.out,R7.out,F6.out⟩
            case measure=>simp[intOf];omega
         | false=>
           go_wp2_with fail
           go_roundw
           case rel=>exact⟨j+1,by omega,by go_num,_,_,rfl,HO4.out,HR2.out.imp (fun e h=>⟨h.1,rulesL_next h.2 HY.out (fun ht=>absurd ht (takes_skip (fun hq=>HOP.out hq) (.inr (by show f0 (insDefV op d).toNat=false;rw[HDD.out,←e];exact HQ.out))))⟩),F4.out⟩
           case measure=>simp[intOf];omega
        ·have hdn:dd<0:=by omega
         go_wp2_with fail
         go_roundw
         case rel=>exact⟨j+1,by omega,by go_num,_,_,rfl,HO4.out,HR2.out.imp (fun e h=>⟨h.1,rulesL_next h.2 HY.out (fun ht=>absurd ht (takes_skip (fun hq=>HOP.out hq) (.inl (by show insDefV op d<0;rw[HDD.out];omega))))⟩),F4.out⟩
         case measure=>simp[intOf];omega
    ·have HR3:Hid (RSt F vn f0 M2 f2 (RulesB vn f0 (F.blocks.take k)∧RulesL vn f0 x.list)):=by
      have h:=HR2.out
      rw[show x.list.take j=x.list from List.take_of_length_le (by have:=HNL.out;omega)] at h
      exact h
     clear HR2
     go_wp2_with fail
     go_loopw [5,11] (fun t i wr=>∃j:Nat,j≤np∧i = .int .i64 (j:Int)∧RAt w2 wr lo g vn F f0 t (RulesB vn f0 (F.blocks.take k)∧RulesL vn f0 x.list∧RulesP vn f0 (x.phis.take j))) (fun _ i _=>np-(intOf i).toNat)
     case atStart=>exact⟨0,Nat.zero_le _,rfl,f2,M2,rfl,HO2.out,HR3.out.imp (fun _ h=>⟨h.1,h.2,fun y hy=>by simp at hy⟩),HF2.out⟩
     case round=>
      obtain⟨i,hi,rfl,f3,M3,rfl,hO,hR,hFr⟩:=hrel
      have HO3:Hid (OwnBools wr lo (.slice (some ⟨g,0,none⟩) vn vn) (listB vn f3)):=hO
      have HR4:Hid (RSt F vn f0 M3 f3 (RulesB vn f0 (F.blocks.take k)∧RulesL vn f0 x.list∧RulesP vn f0 (x.phis.take i))):=hR
      have HF3:Hid (Fr g w2 wr):=hFr
      have c0:=KY.out _ hFr 0 _ P0.out
      clear hO hR hFr c1
      by_cases hlti:(i:Int)<(np:Int)
      ·obtain⟨p,hp⟩:∃y,x.phis[i]? = some y:=⟨_,List.getElem?_eq_getElem (by have:=HNP.out;omega)⟩
       obtain⟨pb,poff,rfl,q1,av,q2,hav⟩:=listAt_at HPS.out hp
       have HP:Hid (x.phis[i]? = some p):=hp
       have HPM:Hid (p∈x.phis):=List.mem_of_getElem? hp
       have HAV:Hid (ListAt 0 2 ArmAt w0 av p.arms):=hav
       obtain⟨na,HNA⟩:∃n,Hid (p.arms.length=n):=⟨_,rfl⟩
       obtain⟨aa,acap,rfl,ham,_⟩:=hav
       rw[HNA.out] at q2 ham HAV
       obtain⟨d,hd⟩:∃d:Nat,p.d=(d:Int):=⟨p.d.toNat,by have:=(HW.out.phis p HPM.out).1;omega⟩
       have hdn:d<vn:=by have:=(HW.out.phis p HPM.out).1;have:=HVN.out;omega
       have hdn2:(d:Int)<(vn:Int):=by omega
       rw[hd] at q1
       have HD:Hid (p.d=(d:Int)):=hd
       have Q1:Hid (w0.cell? ⟨pb,poff+i*2,none⟩=some (.int .i64 (d:Int))):=q1
       have Q2:Hid (w0.cell? ⟨pb,poff+i*2+1,none⟩=some (.slice aa na acap)):=q2
       clear hp hd q1 q2
       go_wp2_with fail
       go_loopw [5,12] (fun t i2 wr=>∃s:Nat,s≤na∧i2 = .int .i64 (s:Int)∧RAt w2 wr lo g vn F f0 t (RulesB vn f0 (F.blocks.take k)∧RulesL vn f0 x.list∧RulesP vn f0 (x.phis.take i)∧RulesA vn f0 p (p.arms.take s))) (fun _ i _=>na-(intOf i).toNat)
       case atStart=>exact⟨0,Nat.zero_le _,rfl,f3,M3,rfl,HO3.out,HR4.out.imp (fun _ h=>⟨h.1,h.2.1,h.2.2,fun _ a ha=>by simp at ha⟩),HF3.out⟩
       case round=>
        obtain⟨s,hs,rfl,f4,M4,rfl,hO,hR,hFr⟩:=hrel
        have HO4:Hid (OwnBools wr lo (.slice (some ⟨g,0,none⟩) vn vn) (listB vn f4)):=hO
        have HR5:Hid (RSt F vn f0 M4 f4 (RulesB vn f0 (F.blocks.take k)∧RulesL vn f0 x.list∧RulesP vn f0 (x.phis.take i)∧RulesA vn f0 p (p.arms.take s))):=hR
        have HF4:Hid (Fr g w2 wr):=hFr
        have c4:=KY.out _ hFr 0 _ P0.out
        have BU:Hid (Below w0.heap.size w0 wr):=BY.out _ hFr
        have q1:=Bel.keeps BU.out Q1.out
        have q2:=Bel.keeps BU.out Q2.out
        clear hO hR hFr
        by_cases hlts:(s:Int)<(na:Int)
        ·have g0:=HO4.out.cellAt (listB_len _ _) (i:=d) hdn
         rw[listB_at _ _ hdn] at g0
         obtain⟨Q,HQ⟩:∃q,Hid (f4 d=q):=⟨_,rfl⟩
         rw[HQ.out] at g0
         cases Q with
         | true=>
          obtain⟨a,ha⟩:∃y,p.arms[s]? = some y:=⟨_,List.getElem?_eq_getElem (by have:=HNA.out;omega)⟩
          obtain⟨ab,aoff,rfl,r0,r1⟩:=listAt_at (arms_keep HAV.out (Keeps.of_below BU.out 0)) ha
          have HA:Hid (p.arms[s]? = some a):=ha
          have HAM:Hid (a∈p.arms):=List.mem_of_getElem? ha
          have hva:∀v∈[a.v],0≤v∧v<(vn:Int):=fun v hv=>by rw[List.mem_singleton.1 hv];have:=(HW.out.phis p HPM.out).2 a HAM.out;have:=HVN.out;omega
          have HVA:Hid (∀v∈[a.v],0≤v∧v<(vn:Int)):=hva
          have R6:Hid (∀N,newIn f4 [a.v]=N→RSt F vn f0 (M4 || N) (markF f4 [a.v]) (RulesB vn f0 (F.blocks.take k)∧RulesL vn f0 x.list∧RulesP vn f0 (x.phis.take i)∧RulesA vn f0 p (p.arms.take (s+1)))):=fun N hN=>(HR5.out.mark hva (fun hu v hv=>by
           rw[List.mem_singleton.1 hv]
           exact(used_closed F x HXM.out).phi p HPM.out (hu _ ⟨by rw[HD.out];omega,by rw[HD.out];exact hdn2,by rw[HD.out];exact HQ.out⟩) a HAM.out) hN).imp (fun _ h=>⟨h.1.1,h.1.2.1,h.1.2.2.1,rulesA_next h.1.2.2.2 HA.out (h.2 _ (List.mem_singleton.2 rfl))⟩)
          obtain⟨N,HNN⟩:∃N,Hid (newIn f4 [a.v]=N):=⟨_,rfl⟩
          clear ha hva
          go_wp2_with fail
          obtain⟨w5,hw5⟩:∃W,wr.alloc (.cells #[.int .i64 a.v] 3)=W:=⟨_,rfl⟩
          have b5:Below wr.heap.size wr w5:=by rw[←hw5];exact Bel.alloc _ _
          have hru:RowNew w5 wr.heap.size (.slice (some ⟨wr.heap.size,0,none⟩) 1 1) [a.v]:=by rw[←hw5];exact rowNew1 wr _ a.v _ rfl
          have F5:Hid (Fr g w2 w5):=HF4.out.trans (Fr.ofBelow b5)
          have O5:=HO4.out.keep b5
          rw[hw5]
          refine(l7Mark_any lo g vn f4 _ [a.v] w5 O5 hru.at HVA.out (by omega) (hru.off (g:=g) (by have:=HF4.out.size;have:=S2.out;have:=HGY.out;omega))).mono ?_
          rw[HNN.out]
          rintro e w6 ⟨rfl,o6,f6⟩
          have O6:Hid (OwnBools w6 lo (.slice (some ⟨g,0,none⟩) vn vn) (listB vn (markF f4 [a.v]))):=o6
          have F6:Hid (Fr g w2 w6):=F5.out.trans f6
          have R7:Hid (RSt F vn f0 (M4 || N) (markF f4 [a.v]) (RulesB vn f0 (F.blocks.take k)∧RulesL vn f0 x.list∧RulesP vn f0 (x.phis.take i)∧RulesA vn f0 p (p.arms.take (s+1)))):=R6.out N HNN.out
          clear o6 f6 O5 hru b5 hw5
          cases N with
          | true=>
           rw[Bool.or_true] at R7
           go_wp2_with fail
           go_roundw
           case rel=>exact⟨s+1,by omega,by go_num,_,_,rfl,O6.out,R7.out,F6.out⟩
           case measure=>simp[intOf];omega
          | false=>
           rw[Bool.or_false] at R7
           go_wp2_with fail
           go_roundw
           case rel=>exact⟨s+1,by omega,by go_num,_,_,rfl,O6.out,R7.out,F6.out⟩
           case measure=>simp[intOf];omega
         | false=>
          go_wp2_with fail
          go_roundw
          case rel=>exact⟨i+1,by omega,by go_num,_,_,rfl,HO4.out,HR5.out.imp (fun e h=>⟨h.1,h.2.1,rulesP_next h.2.2.1 HP.out (fun hin=>absurd hin.2.2 (by rw[HD.out,←e];show ¬f4 d=true;rw[HQ.out];simp))⟩),HF4.out⟩
          case measure=>simp[intOf];omega
        ·go_wp2_with fail
         go_roundw
         case rel=>
          refine⟨i+1,by omega,by go_num,_,_,rfl,HO4.out,HR5.out.imp (fun e h=>⟨h.1,h.2.1,rulesP_next h.2.2.1 HP.out ?_⟩),HF4.out⟩
          have h9:=h.2.2.2
          rw[show p.arms.take s=p.arms from List.take_of_length_le (by have:=HNA.out;omega)] at h9
          exact h9
         case measure=>simp[intOf];omega
      ·have HR6:Hid (RSt F vn f0 M3 f3 (RulesB vn f0 (F.blocks.take k)∧RulesL vn f0 x.list∧RulesP vn f0 x.phis)):=by
        have h:=HR4.out
        rw[show x.phis.take i=x.phis from List.take_of_length_le (by have:=HNP.out;omega)] at h
        exact h
       have c2:=KY.out _ HF3.out 2 _ P2.out
       have c3:=KY.out _ HF3.out 3 _ P3.out
       have c4:=KY.out _ HF3.out 4 _ P4.out
       have c5:=KY.out _ HF3.out 5 _ P5.out
       go_wp2_with fail
       refine(spec_termUses _ _ _ _ _).mono ?_
       rintro e w5 ⟨uv,uk,rfl,huk,hru,b5⟩
       have F5:Hid (Fr g w2 w5):=HF3.out.trans (Fr.ofBelow b5)
       have O5:=HO3.out.keep b5
       have hne:=hru.off (g:=g) (by have:=HF3.out.size;have:=S2.out;have:=HGY.out;omega)
       have hat5:=hru.at
       have hs5:∀v∈endsV tk ta,0≤v∧v<(vn:Int):=fun v hv=>by rw[←HTK.out,←HTA.out] at hv;have:=HW.out.fin v hv;have:=HVN.out;omega
       have R6:Hid (∀N,newIn f3 (endsV tk ta)=N→RSt F vn f0 (M3 || N) (markF f3 (endsV tk ta)) (RulesB vn f0 (F.blocks.take (k+1)))):=fun N hN=>(HR6.out.mark hs5 (fun hu v hv=>by rw[←HTK.out,←HTA.out] at hv;exact(used_closed F x HXM.out).fin v hv) hN).imp (fun _ h=>rulesB_next h.1.1 HXK.out ⟨h.1.2.1,h.1.2.2,fun v hv=>by rw[HTK.out,HTA.out] at hv;exact h.2 v hv⟩)
       obtain⟨N,HNN⟩:∃N,Hid (newIn f3 (endsV tk ta)=N):=⟨_,rfl⟩
       clear hru b5 huk
       go_wp2_with fail
       refine(l7Mark_any lo g vn f3 uv (endsV tk ta) _ O5 hat5 hs5 (by omega) hne).mono ?_
       rw[HNN.out]
       rintro e w6 ⟨rfl,o6,f6⟩
       have O6:Hid (OwnBools w6 lo (.slice (some ⟨g,0,none⟩) vn vn) (listB vn (markF f3 (endsV tk ta)))):=o6
       have F6:Hid (Fr g w1 w6):=(F2.out.trans F5.out).trans f6
       have R7:Hid (RSt F vn f0 (M3 || N) (markF f3 (endsV tk ta)) (RulesB vn f0 (F.blocks.take (k+1)))):=R6.out N HNN.out
       clear o6 f6 O5 hat5 hs5 hne
       cases N with
       | true=>
        rw[Bool.or_true] at R7
        go_wp2_with fail
        go_roundw
        case rel=>exact⟨k+1,by omega,by go_num,_,_,rfl,O6.out,R7.out,F6.out⟩
        case measure=>simp[intOf];omega
       | false=>
        rw[Bool.or_false] at R7
        go_wp2_with fail
        go_roundw
        case rel=>exact⟨k+1,by omega,by go_num,_,_,rfl,O6.out,R7.out,F6.out⟩
        case measure=>simp[intOf];omega
  ·go_wp2_with fail
   go_ret
   refine⟨_,rfl,f,M,rfl,HO.out,?_,F1.out.trans HFr.out⟩
   have h:=HR.out
   rw[show F.blocks.take k=F.blocks from List.take_of_length_le (by have:=HN.out;omega)] at h
   exact h
set_option maxRecDepth 100000
def leftIn (w:World)(g vn:Nat):Nat:=((List.range vn).filter (fun i=>match w.cell? ⟨g,i,none⟩ with | some (.bool b)=>!b | _=>false)).length
def leftF (vn:Nat)(f:Nat→Bool):Nat:=((List.range vn).filter (fun i=>!(f i))).length
theorem left_eq {w:World}{lo g vn:Nat}{f:Nat→Bool}(h:OwnBools w lo (.slice (some ⟨g,0,none⟩) vn vn) (listB vn f)):leftIn w g vn=leftF vn f:=by
 unfold leftIn leftF
 congr 1
 refine List.filter_congr fun i hi=>?_
 have hi:i<vn:=List.mem_range.1 hi
 rw[h.cellAt (listB_len _ _) hi,listB_at _ _ hi]
theorem left_lt {f0 f:Nat→Bool}(hm:∀i,f0 i=true→f i=true):∀vn,leftF vn f≤leftF vn f0∧((∃i,i<vn∧f0 i=false∧f i=true)→leftF vn f<leftF vn f0)
 | 0=>⟨Nat.le_refl _,fun⟨i,h,_⟩=>absurd h (by omega)⟩
 | vn+1=>by
  obtain⟨h1,h2⟩:=left_lt hm vn
  have e:∀k:Nat→Bool,leftF (vn+1) k=leftF vn k+(if k vn then 0 else 1):=fun k=>by
   unfold leftF
   rw[List.range_succ,List.filter_append,List.length_append]
   cases hk:k vn <;> simp[hk]
  rw[e f,e f0]
  have h3:(if f vn then 0 else 1)≤(if f0 vn then 0 else 1):=by
   cases h:f0 vn with
   | true=>rw[hm vn h];exact Nat.le_refl _
   | false=>split <;> simp
  refine⟨by omega,fun⟨i,hi,hf0,hf⟩=>?_⟩
  by_cases ei:i=vn
  ·subst ei
   rw[hf0,hf]
   simp
   omega
  ·have:=h2 ⟨i,by omega,hf0,hf⟩
   omega
open Classical in
theorem listB_used {F:FnD}{vn:Nat}{f:Nat→Bool}(hvn:(vn:Int)=F.values)(hs:∀v,InF vn f v→UsedV F v)(hc:RulesB vn f F.blocks):listB vn f=usedOf F:=by
 unfold usedOf listB
 rw[show F.values.toNat=vn by omega]
 refine List.map_congr_left fun i hi=>?_
 have hi:i<vn:=List.mem_range.1 hi
 have h:=used_least (F:=F) (U:=InF vn f) hc hs (i:Int)
 cases hf:f i with
 | true=>exact(decide_eq_true (h.1 ⟨by omega,by omega,hf⟩)).symm
 | false=>
  refine(decide_eq_false fun hu=>?_).symm
  have:=(h.2 hu).2.2
  rw[show((i:Int).toNat)=i from rfl,hf] at this
  cases this
set_option maxHeartbeats 4000000 in
theorem l7Used_any (v:Value)(F:FnD)(vn:Nat)(w:World)(hF:FnAt w v F)(hS:FnShape F)(hC:¬CopyIn F)(hvn:(vn:Int)=F.values) :
  Calls Tryz.prog 35 #[v] w fun e w'=>GivesOwnB w (usedOf F) e w':=by
 have HF:Hid (FnAt w v F):=hF
 have HS:Hid (FnShape F):=hS
 have HCI:Hid (¬CopyIn F):=hC
 have HVN:Hid ((vn:Int)=F.values):=hvn
 obtain⟨n,HN⟩:∃n,Hid (F.blocks.length=n):=⟨_,rfl⟩
 obtain⟨ba,bcap,rfl⟩:=hF.out HN.out hvn.symm
 have hv80:vn≤80:=by have:=hS.2.2.2.1;omega
 clear hF hS hC hvn
 go_enter Tryz.func35,Tryz.ntmps35
 have mk:=make_bools vn (by omega) (w.alloc (.cells #[.slice ba n bcap,.int .i64 (vn:Int)] 26))
 go_wp2_with fail
 clear mk
 obtain⟨w1,hw1⟩:∃W,w.alloc (.cells #[.slice ba n bcap,.int .i64 (vn:Int)] 26)=W:=⟨_,rfl⟩
 obtain⟨X,HX⟩:∃X,Hid (w.heap.size=X):=⟨_,rfl⟩
 have B1:Hid (Below w.heap.size w w1):=by show Below _ _ _;rw[←hw1];exact Bel.alloc _ _
 have x0:w1.cell? ⟨X,0,none⟩=some (.slice ba n bcap):=by rw[←hw1,←HX.out];simp[go_sem]
 have x1:w1.cell? ⟨X,1,none⟩=some (.int .i64 (vn:Int)):=by rw[←hw1,←HX.out];simp[go_sem]
 have hs1:w1.heap.size=X+1:=by rw[←hw1,←HX.out];simp
 try rw[hw1]
 clear hw1
 obtain⟨w2,hw2⟩:∃W,w1.alloc (.cells (madeCells #[.bool false] vn) 4)=W:=⟨_,rfl⟩
 have B12:Hid (Below w1.heap.size w1 w2):=by show Below _ _ _;rw[←hw2];exact Bel.alloc _ _
 have B2:Hid (Below w.heap.size w w2):=Bel.after B1.out B12.out
 obtain⟨G,HGG⟩:∃G,Hid (w1.heap.size=G):=⟨_,rfl⟩
 have HGX:Hid (X<G):=by show X<G;rw[←HGG.out];omega
 have S2:Hid (X<w2.heap.size):=by show X<_;have:=B12.out.size;omega
 have O2:Hid (OwnBools w2 w.heap.size (.slice (some ⟨G,0,none⟩) vn vn) (listB vn (fun _=>false))):=by
  have h9:=own_madeB (w:=w1) (lo:=w.heap.size) vn (by omega) B1.out.size
  rw[hw2,HGG.out] at h9
  exact h9
 have X0:Hid (w2.cell? ⟨X,0,none⟩=some (.slice ba n bcap)):=Bel.keeps B12.out x0
 have X1:Hid (w2.cell? ⟨X,1,none⟩=some (.int .i64 (vn:Int))):=Bel.keeps B12.out x1
 try rw[HGG.out]
 try rw[hw2]
 try rw[HX.out]
 have HG1:X+1=G:=by rw[←HGG.out,hs1]
 try rw[HG1]
 clear hw2 x0 x1 hs1 HG1
 go_loopw [9] (fun _ wr=>∃f,OwnBools wr w.heap.size (.slice (some ⟨G,0,none⟩) vn vn) (listB vn f)∧(∀v,InF vn f v→UsedV F v)∧Fr G w2 wr) (fun _ wr=>leftIn wr G vn)
 case atStart=>exact⟨_,O2.out,fun v hv=>absurd hv.2.2 (by simp),Fr.refl _ _⟩
 case round=>
  obtain⟨f,hO,hU,hFr⟩:=hrel
  have HO:Hid (OwnBools wr w.heap.size (.slice (some ⟨G,0,none⟩) vn vn) (listB vn f)):=hO
  have HU:Hid (∀v,InF vn f v→UsedV F v):=hU
  have HFr:Hid (Fr G w2 wr):=hFr
  have KX:∀o u,w2.cell? ⟨X,o,none⟩=some u→wr.cell? ⟨X,o,none⟩=some u:=fun o u hc=>(hFr.cell (x:=⟨X,o,none⟩) (by show X<_;exact S2.out) (by show X≠G;have:=HGX.out;omega)).trans hc
  have x0:=KX 0 _ X0.out
  have x1:=KX 1 _ X1.out
  have HXG:Hid (w.heap.size≤G):=by show _≤G;rw[HX.out];have:=HGX.out;omega
  have BR:Hid (Below w.heap.size w wr):=Below.trans B2.out (hFr.below HXG.out B2.out.size)
  clear hO hU hFr KX
  go_wp2_with fail
  refine(l7Round_any _ F w.heap.size G vn f w wr HF.out HS.out HCI.out HVN.out BR.out HXG.out HO.out).mono ?_
  rintro e w3 ⟨t,rfl,f3,M,rfl,o3,r3,fr3⟩
  have O3:Hid (OwnBools w3 w.heap.size (.slice (some ⟨G,0,none⟩) vn vn) (listB vn f3)):=o3
  have R3:Hid (RSt F vn f M f3 (RulesB vn f F.blocks)):=r3
  have F3:Hid (Fr G w2 w3):=HFr.out.trans fr3
  have B3:Hid (Below w.heap.size w w3):=Below.trans B2.out (F3.out.below HXG.out B2.out.size)
  clear o3 r3 fr3 x0 x1
  cases M with
  | true=>
   go_wp2_with fail
   go_roundw
   case rel=>exact⟨f3,O3.out,R3.out.sound HU.out,F3.out⟩
   case measure=>
    show leftIn w3 G vn<leftIn wr G vn
    rw[left_eq O3.out,left_eq HO.out]
    exact(left_lt R3.out.mono vn).2 (R3.out.grow rfl)
  | false=>
   go_wp2_with fail
   go_ret
   refine⟨_,rfl,?_,B3.out⟩
   obtain⟨e,hR⟩:=R3.out.still rfl
   rw[←listB_used HVN.out HU.out hR,←e]
   exact O3.out
set_option maxHeartbeats 4000000 in
theorem spec_used (v:Value)(F:FnD)(w:World)(hF:FnAt w v F) :
  Calls Tryz.prog 11 #[v] w fun e w'=>GivesOwnB w (usedAll F) e w':=by
 have HF:Hid (FnAt w v F):=hF
 obtain⟨n,HN⟩:∃n,Hid (F.blocks.length=n):=⟨_,rfl⟩
 obtain⟨vals,HV⟩:∃x,Hid (F.values=x):=⟨_,rfl⟩
 obtain⟨ba,bcap,rfl⟩:=hF.out HN.out HV.out
 obtain⟨c,HC⟩:∃c,Hid (checkOf F=c):=⟨_,rfl⟩
 obtain⟨L,HL⟩:∃L,Hid (usedAll F=L):=⟨_,rfl⟩
 rw[HL.out]
 clear hF
 go_enter Tryz.func11,Tryz.ntmps11
 go_wp2_with fail
 obtain⟨w1,hw1⟩:∃W,w.alloc (.cells #[.slice ba n bcap,.int .i64 vals] 26)=W:=⟨_,rfl⟩
 obtain⟨X,HX⟩:∃X,Hid (w.heap.size=X):=⟨_,rfl⟩
 have B1:Hid (Below w.heap.size w w1):=by show Below _ _ _;rw[←hw1];exact Bel.alloc _ _
 have x0:w1.cell? ⟨X,0,none⟩=some (.slice ba n bcap):=by rw[←hw1,←HX.out];simp[go_sem]
 have x1:w1.cell? ⟨X,1,none⟩=some (.int .i64 vals):=by rw[←hw1,←HX.out];simp[go_sem]
 rw[hw1,HX.out]
 clear hw1
 refine(spec_check _ F _ (HF.out.later B1.out)).mono ?_
 rw[HC.out]
 rintro e w2 ⟨rfl,b2⟩
 have B2:Hid (Below w.heap.size w w2):=Bel.after B1.out b2
 replace x0:=Bel.keeps b2 x0
 replace x1:=Bel.keeps b2 x1
 have hs2:=B2.out.size
 clear b2
 by_cases hc:c=0
 ·subst hc
  have HW:Hid (FnShape F∧¬CopyIn F∧AllReached F):=check_well HC.out
  have HLO:Hid (L=usedOf F):=by show _=_;rw[←HL.out];unfold usedAll;rw[if_pos HC.out]
  obtain⟨vn,HVN⟩:∃vn:Nat,Hid ((vn:Int)=F.values):=⟨F.values.toNat,by show _=_;have:=HW.out.1.2.2.1;omega⟩
  have hc0:((0:Int) != 0)=false:=by decide
  go_wp2_with fail
  refine(l7Used_any _ F vn _ (HF.out.later B2.out) HW.out.1 HW.out.2.1 HVN.out).mono ?_
  rintro e w3 ⟨uv,rfl,o3,b3⟩
  have O3:Hid (OwnBools w3 w.heap.size uv (usedOf F)):=ownsRow_lowB o3 hs2
  have B3:Hid (Below w.heap.size w w3):=Bel.after B2.out b3
  clear o3 b3
  go_wp2_with fail
  go_ret
  refine⟨_,rfl,?_,B3.out⟩
  rw[HLO.out]
  exact O3.out
 ·have hc0:(c != 0)=true:=by simpa using hc
  obtain rfl : []=L:=by rw[←HL.out];unfold usedAll;rw[if_neg (by rw[HC.out];exact hc)]
  go_wp2_with fail
  go_ret
  exact⟨_,rfl,(ownBools_new w2).low hs2,B2.out.alloc hs2 _⟩
theorem used_bound (F:FnD):(usedAll F).length≤100:=by
 unfold usedAll
 split
 ·rename_i h
  have h1:=(check_well h).1.2.2.2.1
  simp[usedOf]
  omega
 ·simp
theorem BoolsAt.cells {w:World}{oa:Option Addr}{n ocap:Nat}{o:List Bool}(h:BoolsAt w (.slice oa n ocap) o):∀wr,Below w.heap.size w wr→∀k,k<n→∃b off,oa=some ⟨b,off,none⟩∧wr.cell? ⟨b,off+k,none⟩=some (.bool (o.getD k false)):=by
 intro wr hb k hk
 obtain⟨a,cap,e,_,hc⟩:=h.keep hb
 simp at e
 obtain⟨rfl,rfl,rfl⟩:=e
 obtain⟨b,off,rfl,hd⟩:=hc (by omega)
 exact⟨b,off,rfl,hd k hk⟩
theorem used_len {F:FnD}(h:checkOf F=0):((usedAll F).length:Int)=F.values:=by
 unfold usedAll
 rw[if_pos h]
 have:=(check_well h).1.2.2.1
 simp[usedOf]
 omega
theorem used_none {F:FnD}(h:checkOf F≠0):usedAll F = []:=by
 unfold usedAll
 rw[if_neg h]
theorem used_at {F:FnD}(h:checkOf F=0){v:Nat}(hv:v<(usedAll F).length):(usedAll F).getD v false=true↔UsedV F (v:Int):=by
 unfold usedAll at hv ⊢
 rw[if_pos h] at hv ⊢
 unfold usedOf at hv ⊢
 have hv:v<F.values.toNat:=by simpa using hv
 simp[List.getD,hv]
theorem used_takes {F:FnD}(h:checkOf F=0){x:BlockD}(hx:x∈F.blocks){y:InsD}(hy:y∈x.list)(hc:(21≤y.op∧y.op≤23)∨(0≤insDefV y.op y.d∧(usedAll F).getD (insDefV y.op y.d).toNat false=true)){v:Nat}(hv:(v:Int)∈usesV y.op y.a y.b):(usedAll F).getD v false=true:=by
 obtain⟨hS,hC,hA⟩:=check_well h
 have hw:=well_block hS hC hx
 have hl:=used_len h
 have hr:=(hw.ins y hy).1 _ hv
 refine(used_at h (by omega)).2 ?_
 exact takes_sound (f:=fun i=>(usedAll F).getD i false) (vn:=(usedAll F).length) hx hw hl hy hc (fun u ⟨h0,h1,h2⟩=>by
  obtain⟨n,rfl⟩:=Int.eq_ofNat_of_zero_le h0
  exact(used_at h (by omega)).1 h2) _ hv
theorem used_fin {F:FnD}(h:checkOf F=0){x:BlockD}(hx:x∈F.blocks){v:Nat}(hv:(v:Int)∈endsV x.term.k x.term.a):(usedAll F).getD v false=true:=by
 obtain⟨hS,hC,hA⟩:=check_well h
 have hw:=well_block hS hC hx
 have hl:=used_len h
 have hr:=hw.fin _ hv
 exact(used_at h (by omega)).2 ((used_closed F x hx).fin _ hv)
end Go.Proofs.YtinlfjgabkodcaaGreatDoor
