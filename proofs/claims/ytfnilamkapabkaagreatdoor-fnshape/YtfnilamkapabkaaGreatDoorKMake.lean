/- What a program makes and where, by blocks, phis first, as mathematics. What was made, in a map: each value, and where. What a program makes, told by the program's own iterator: its contract, for every program. What a program makes, told by the program's own iterator, where a round may panic. A range over a function whose assignment lays a box of its own in each round: a law of the walk, over the library's steps. A range over a function a round of which may panic: laws of the walk, over the -/
import Derived.Test.YtfnilamkapabkaaGreatDoorKSh1
import Derived.Test.YtfnilamkapabkaaGreatDoorKSeq
import Derived.Maps.OwnIn
import Derived.Maps.Views
import Derived.Maps.OwnOps
import Derived.RangeFuncWrites
import Derived.Test.YtfnilamkapabkaaGreatDoorRows
import Derived.RangeFuncLeaves
import Derived.Test.YtfnilamkapabkaaGreatDoorKDfs
import Derived.Test.YtfnilamkapabkaaGreatDoorKIns
import Derived.Test.YtfnilamkapabkaaGreatDoorKSh8
import Derived.Test.YtfnilamkapabkaaGreatDoorKWalk
import Derived.Deep.OwnRows
namespace Go.Proofs.YtfnilamkapabkaaGreatDoor
open Go.ChangeShapes Go.WideShapes Go.ChangeAt Go.RowKit Go.Shelf
set_option linter.unusedVariables false
abbrev Made := Int × Int × Int
def phiMakes (b:Nat)(ps:List PhiD):List Made:=ps.map (fun p=>(p.d,(b:Int),-1))
theorem phiMakes_next {b:Nat}{ps:List PhiD}{k:Nat}{p:PhiD}(h:ps[k]? = some p):phiMakes b (ps.take (k+1))=phiMakes b (ps.take k) ++ [(p.d,(b:Int),-1)]:=by
 rw[List.take_add_one,h]
 simp[phiMakes]
def insMakes (b:Nat)(l:List InsD):Nat→List Made
 | 0=>[]
 | k+1=>insMakes b l k ++ (match l[k]? with | some x=>if makesV x.op=true then [(x.d,(b:Int),(k:Int))] else [] | none=>[])
theorem insMakes_yes {b:Nat}{l:List InsD}{k:Nat}{x:InsD}(h:l[k]? = some x)(hm:makesV x.op=true):insMakes b l (k+1)=insMakes b l k ++ [(x.d,(b:Int),(k:Int))]:=by simp[insMakes,h,hm]
theorem insMakes_no {b:Nat}{l:List InsD}{k:Nat}{x:InsD}(h:l[k]? = some x)(hm:makesV x.op=false):insMakes b l (k+1)=insMakes b l k:=by simp[insMakes,h,hm]
def blockMakes (b:Nat)(x:BlockD):List Made:=phiMakes b x.phis ++ insMakes b x.list x.list.length
def makesUp (F:FnD):Nat→List Made
 | 0=>[]
 | k+1=>makesUp F k ++ (match F.blocks[k]? with | some x=>blockMakes k x | none=>[])
theorem makesUp_next {F:FnD}{k:Nat}{x:BlockD}(h:F.blocks[k]? = some x):makesUp F (k+1)=makesUp F k ++ blockMakes k x:=by simp[makesUp,h]
def makesOf (F:FnD):List Made:=makesUp F F.blocks.length
theorem insMakes_pre (b:Nat)(l:List InsD)(k:Nat)(j:Nat):insMakes b l k <+: insMakes b l (k+j):=by
 induction j with
 | zero=>exact List.prefix_refl _
 | succ j ih=>exact ih.trans (List.prefix_append _ _)
theorem makesUp_pre (F:FnD)(k j:Nat):makesUp F k <+: makesUp F (k+j):=by
 induction j with
 | zero=>exact List.prefix_refl _
 | succ j ih=>exact ih.trans (List.prefix_append _ _)
theorem makes_phi {F:FnD}{b k:Nat}{x:BlockD}(h:F.blocks[b]? = some x):makesUp F b ++ phiMakes b (x.phis.take k) <+: makesOf F:=by
 have hlt:b<F.blocks.length:=(List.getElem?_eq_some_iff.1 h).1
 have h1:makesUp F (b+1) <+: makesOf F:=by
  have:=makesUp_pre F (b+1) (F.blocks.length-(b+1))
  rw[show b+1+(F.blocks.length-(b+1))=F.blocks.length by omega] at this
  exact this
 refine List.IsPrefix.trans ?_ h1
 rw[makesUp_next h]
 refine(List.prefix_append_right_inj _).2 ?_
 unfold blockMakes
 refine List.IsPrefix.trans ?_ (List.prefix_append _ _)
 unfold phiMakes
 exact(List.take_prefix _ _).map _
theorem makes_ins {F:FnD}{b k:Nat}{x:BlockD}(h:F.blocks[b]? = some x)(hk:k≤x.list.length):makesUp F b ++ phiMakes b x.phis ++ insMakes b x.list k <+: makesOf F:=by
 have hlt:b<F.blocks.length:=(List.getElem?_eq_some_iff.1 h).1
 have h1:makesUp F (b+1) <+: makesOf F:=by
  have:=makesUp_pre F (b+1) (F.blocks.length-(b+1))
  rw[show b+1+(F.blocks.length-(b+1))=F.blocks.length by omega] at this
  exact this
 refine List.IsPrefix.trans ?_ h1
 rw[makesUp_next h,List.append_assoc]
 refine(List.prefix_append_right_inj _).2 ?_
 unfold blockMakes
 refine(List.prefix_append_right_inj _).2 ?_
 have:=insMakes_pre b x.list k (x.list.length-k)
 rw[show k+(x.list.length-k)=x.list.length by omega] at this
 exact this
def firstV (v:Int)(l:List Made):Option Made:=l.find? (fun m=>decide (m.1=v))
theorem firstV_none {v:Int}{l:List Made}:firstV v l=none↔∀m∈l,m.1≠v:=by simp[firstV]
def atOf : Option Made→Int × Int
 | some m=>m.2
 | none=>(-1,-2)
open Classical in
noncomputable def defAtOf (F:FnD)(v:Int):Int × Int:=if FnShape F then atOf (firstV v (makesOf F)) else(-1,-2)
theorem defAtOf_yes {F:FnD}{v:Int}(h:FnShape F):defAtOf F v=atOf (firstV v (makesOf F)):=if_pos h
theorem defAtOf_end {F:FnD}{v:Int}(hS:FnShape F)(h:firstV v (makesOf F)=none):defAtOf F v=(-1,-2):=by
 rw[defAtOf_yes hS,h]
 rfl
end Go.Proofs.YtfnilamkapabkaaGreatDoor
namespace Go.Proofs.YtfnilamkapabkaaGreatDoor
open Go.ChangeShapes Go.WideShapes Go.ChangeAt Go.RowKit Go.Shelf
set_option linter.unusedVariables false
def spotElem (v:Value):Option (DataW Unit × List MemPlace) :=
 match v with
 | .agg cs=>(match cs.toList with | [.int .i64 a,.int .i64 b]=>some (.agg [.lit (.int .i64 a),.lit (.int .i64 b)],[]) | _=>none)
 | _=>none
theorem spotElem_mk (a b:Int):spotElem (.agg #[.int .i64 a,.int .i64 b])=some (.agg [.lit (.int .i64 a),.lit (.int .i64 b)],[]):=rfl
theorem spotElem_inv {v:Value}{d:DataW Unit}{ps:List MemPlace}(h:spotElem v=some (d,ps)):∃a b,v = .agg #[.int .i64 a,.int .i64 b]∧d = .agg [.lit (.int .i64 a),.lit (.int .i64 b)]:=by
 unfold spotElem at h
 split at h
 ·rename_i cs
  split at h
  ·rename_i a b e
   simp only[Option.some.injEq,Prod.mk.injEq] at h
   refine⟨a,b,?_,h.1.symm⟩
   congr 1
   apply Array.toList_inj.1
   rw[e]
  ·cases h
 ·cases h
def litOf (p:Int × Int):DataW Unit := .agg [.lit (.int .i64 p.1),.lit (.int .i64 p.2)]
def MadeMap (w:World)(mb:Nat)(l:List Made):Prop := ∃D:DataW Unit,w.ownsMap Tryz.prog 3 spotElem mb l.length D∧(∀x:Int,Maps.has D (.int .i64 x)=decide (x∈l.map (fun m=>m.1)))∧((l.map (fun m=>m.1)).Nodup→∀m∈l,∀z,D.atKey (.int .i64 m.1) z=litOf m.2)
theorem madeMap_put {w:World}{mb:Nat}{l:List Made}{D:DataW Unit}(hm:Maps.IsMap D)(hD:∀x:Int,Maps.has D (.int .i64 x)=decide (x∈l.map (fun m=>m.1)))(hA:(l.map (fun m=>m.1)).Nodup→∀m∈l,∀z,D.atKey (.int .i64 m.1) z=litOf m.2)(m:Made)
  (h:w.ownsMap Tryz.prog 3 spotElem mb (l.length+1) (D.put (.int .i64 m.1) (litOf m.2))):MadeMap w mb (l ++ [m]):=by
 refine⟨_,by rw[List.length_append];exact h,fun x=>?_,fun hn y hy z=>?_⟩
 ·by_cases e:x=m.1
  ·subst e
   rw[Maps.has_put_same hm (by trivial)]
   simp
  ·rw[Maps.has_put_other (by simpa using e),hD x]
   simp[e]
 ·rw[List.map_append,List.nodup_append] at hn
  obtain⟨h1,_,h3⟩:=hn
  rcases List.mem_append.1 hy with hy | hy
  ·have hne:y.1≠m.1:=fun e=>h3 y.1 (List.mem_map_of_mem hy) m.1 (by simp) e
   rw[Maps.atKey_put_other (by simpa using hne)]
   exact hA h1 y hy z
  ·simp at hy
   subst hy
   rw[Maps.atKey_put_same hm (by trivial)]
theorem MadeMap.kept {w w':World}{mb:Nat}{l:List Made}(h:MadeMap w mb l)(hk:w'.heap[mb]? = w.heap[mb]?):MadeMap w' mb l:=by
 obtain⟨D,⟨es,ck,h1,h2⟩,h3⟩:=h
 exact⟨D,⟨es,ck,hk.trans h1,h2⟩,h3⟩
theorem MadeMap.isMap {w:World}{mb:Nat}{l:List Made}(h:MadeMap w mb l):∃es ck,w.heap[mb]? = some (.map es ck):=by
 obtain⟨D,⟨es,ck,h1,h2⟩,h3⟩:=h
 exact⟨es,ck,h1⟩
theorem keyed_made : Maps.Keyed Tryz.prog 3:=Maps.int_keyed Tryz.underlying3
end Go.Proofs.YtfnilamkapabkaaGreatDoor
namespace Go.Proofs.YtfnilamkapabkaaGreatDoor
open Go.ChangeShapes Go.WideShapes Go.ChangeAt Go.RowKit Go.Shelf
set_option linter.unusedVariables false
attribute [local go_sem] Oper.semAt_some
def KeepsCells (W W':World):Prop := ∀(k:Nat) (o:Obj),W.heap[k]? = some o→o.isCells=true→W'.heap[k]? = some o
theorem keepsC_t {A B C:World}(h:KeepsCells A B)(k:KeepsCells B C):KeepsCells A C:=fun i o h1 h2=>k i o (h i o h1 h2) h2
theorem keepsC_b {w:World}(W:World)(l:Nat)(o o':Obj)(_:w.heap.size≤l)(h:W.heap[l]? = some o)(hc:o.isCells=false)(_:o.isWalk=false):KeepsCells W (W.putObj l o'):=fun k x h1 h2=>by
 by_cases e:k=l
 ·subst e
  rw[h] at h1
  cases h1
  rw[hc] at h2
  cases h2
 ·exact(World.putObj_heap_other (by omega)).trans h1
theorem keepsC_below {W W':World}(h:Below W.heap.size W W'):KeepsCells W W':=fun k o h1 _=>(h.block k (Array.getElem?_eq_some_iff.1 h1).1).trans h1
theorem KeepsCells.cell {W W':World}(h:KeepsCells W W'){p:Addr}{v:Value}(hc:W.cell? p=some v):W'.cell? p=some v:=by
 unfold World.cell? at hc ⊢
 cases e:W.heap[p.block]? with
 | none=>rw[e] at hc;cases hc
 | some o=>
  rw[e] at hc
  cases o with
  | cells c t z=>rw[h _ _ e rfl];exact hc
  | _=>cases hc
theorem KeepsCells.keeps {W W':World}(h:KeepsCells W W'):Keeps 0 W W':=fun p v _ hc=>h.cell hc
theorem FnAt.kept {W W':World}{v:Value}{F:FnD}(h:FnAt W v F)(k:KeepsCells W W'):FnAt W' v F:=FnAtLo.keep h k.keeps
theorem grown_below {W W':World}(h:Below W.heap.size W W'):W.grownBy W' none:=⟨h.os,h.tape,h.output,h.size,fun k hk _=>h.block k hk⟩
theorem abides_grow {β:Type}{B:Nat}{J:β→World→Prop}(h:AbidesFrom B J){s:β}{W W':World}(hs:J s W)(hb:Below W.heap.size W W'):J s W':=h s W W' none hs (grown_below hb) (fun r e=>by cases e)
theorem pre_in {l m:List Made}{x:Made}(h:l ++ [x] <+: m):x∈m∧l.length<m.length:=by
 obtain⟨t,rfl⟩:=h
 simp
theorem makings_any (v:Value)(w:World)(ba:Option Addr)(n bcap:Nat)(vals:Int)(hv:v = .agg #[.slice ba n bcap,.int .i64 vals]) :
  Calls Tryz.prog 64 #[v] w fun r w'=>r = .returned (.func (.func 119) #[] #[.pointer (some ⟨w.heap.size,0,none⟩)])∧w'=w.alloc (.cells #[.slice ba n bcap,.int .i64 vals] 26):=by
 subst hv
 go_enter Tryz.func64,Tryz.ntmps64
 go_wp2
 go_ret
 exact⟨rfl,rfl⟩
end Go.Proofs.YtfnilamkapabkaaGreatDoor
namespace Go.Proofs.YtfnilamkapabkaaGreatDoor
open Go.ChangeShapes Go.WideShapes Go.ChangeAt Go.RowKit Go.Shelf
set_option linter.unusedVariables false
attribute [local go_sem] Oper.semAt_some
set_option maxRecDepth 100000 in
set_option maxHeartbeats 8000000 in
theorem making_seqP (Q:Made→Prop)(m:Nat)(hm:3≤m)(l B:Nat)(F:FnD)(ba:Option Addr)(n bcap:Nat)(vals:Int)(hQ:∀x∈makesOf F,Q x)(J:List {x // Q x}→World→Prop)(Jp:List PanicEntry→List {x // Q x}→World→Prop)(W:World)
  (aJ:AbidesFrom W.heap.size J)
  (hY:∀pre x W1,J pre W1→pre.length<(makesOf F).length→YieldAt Fence.wide (m-1) Tryz.prog l #[.int .i64 x.1.1,.agg #[.int .i64 x.1.2.1,.int .i64 x.1.2.2]] W1 fun r W'=>
   (r = .returned (.bool true)∧J (pre ++ [x]) W'∧KeepsCells W1 W')∨(∃ch,r = .panicked ch∧Jp ch (pre ++ [x]) W'))
  (hF:FnAt W (.agg #[.slice ba n bcap,.int .i64 vals]) F) (hN:F.blocks.length=n) (hB:W.cell? ⟨B,0,none⟩=some (.slice ba n bcap)) (h0:J [] W) :
  CallsIn Fence.wide m Tryz.prog 119 #[.func (.yield l) #[] #[],.pointer (some ⟨B,0,none⟩)] W fun r W'=>(∃(v:Value) (ys:List {x // Q x}),r = .returned v∧ys.map (fun x=>x.1)=makesOf F∧J ys W')∨(∃(ch:List PanicEntry) (pre:List {x // Q x}),r = .panicked ch∧(pre.map (fun x=>x.1) <+: makesOf F)∧Jp ch pre W'):=by
 have HN:Hid (F.blocks.length=n):=hN
 have HQ:Hid (∀x∈makesOf F,Q x):=hQ
 have AJ:Hid (AbidesFrom W.heap.size J):=aJ
 have HY:Hid (∀pre x W1,J pre W1→pre.length<(makesOf F).length→YieldAt Fence.wide (m-1) Tryz.prog l #[.int .i64 x.1.1,.agg #[.int .i64 x.1.2.1,.int .i64 x.1.2.2]] W1 fun r W'=>
   (r = .returned (.bool true)∧J (pre ++ [x]) W'∧KeepsCells W1 W')∨(∃ch,r = .panicked ch∧Jp ch (pre ++ [x]) W')):=hY
 have HF:Hid (FnAt W (.agg #[.slice ba n bcap,.int .i64 vals]) F):=hF
 have H0:Hid (J [] W):=h0
 have hbm:n≤9223372036854775807:=by
  obtain⟨bv,hv,a,cap,e,h1,_⟩:=hF
  rw[hN] at h1
  exact h1
 clear hN hQ aJ hY hF h0
 refine callsIn_of_wp Tryz.func119 rfl trivial ?_ rfl
 simp only[Tryz.ntmps119,List.size_toArray,List.length_cons,List.length_nil,Nat.reduceAdd,Nat.reduceSub,Array.replicate_succ,Array.replicate_zero,List.push_toArray,List.append_toArray,List.nil_append,List.cons_append]
 gi_wp2
 gi_loopw [14] (fun i wr=>∃(k:Nat) (pre:List {x // Q x}),k≤n∧i = .int .i64 k∧pre.map (fun x=>x.1)=makesUp F k∧J pre wr∧FnAt wr (.agg #[.slice ba n bcap,.int .i64 vals]) F) (fun i _=>n-(intOf i).toNat)
 case atStart=>exact⟨0,[],Nat.zero_le _,rfl,rfl,H0.out,HF.out⟩
 case round=>
  obtain⟨wq,hwq⟩:∃x,x=wr:=⟨_,rfl⟩
  subst hwq
  obtain⟨k,pre,hk,rfl,hpre,hJ,hFq⟩:=hrel
  have HP:Hid (pre.map (fun x=>x.1)=makesUp F k):=hpre
  have HJ:Hid (J pre wq):=hJ
  have HFq:Hid (FnAt wq (.agg #[.slice ba n bcap,.int .i64 vals]) F):=hFq
  clear hpre hJ hFq
  by_cases hlt:(k:Int)<(n:Int)
  ·have hkl:k<F.blocks.length:=by have:=HN.out;omega
   obtain⟨x,HX⟩:∃x,Hid (F.blocks[k]? = some x):=⟨F.blocks[k],List.getElem?_eq_getElem hkl⟩
   obtain⟨b,off,hba,pv,lv,c0,c1,c2,c3,c4,c5,hpv,hlv⟩:∃b off,ba=some ⟨b,off,none⟩∧BlockAt 0 wq b (off+k*6) x:=by
    obtain⟨bv,hv,a,cap,e,h1,h2⟩:=HFq.out
    obtain⟨b,off,ha,_,hc⟩:=h2 (by omega)
    obtain rfl:bv = .slice ba n bcap:=by simp at hv;exact hv.1.symm
    simp at e
    exact⟨b,off,e.1.trans ha,hc k x HX.out⟩
   subst hba
   obtain⟨x0,x1,⟨x2,x3,x4,x5⟩⟩:=x
   have HPV:Hid (ListAt 0 2 (PhiAt 0) wq pv x0):=hpv
   have HLV:Hid (ListAt 0 5 InsAt wq lv x1):=hlv
   obtain⟨pa,pcap,rfl,hpm,-⟩:=hpv
   obtain⟨la,lcap,rfl,hlm,-⟩:=hlv
   obtain⟨pn,HPN⟩:∃n,Hid (x0.length=n):=⟨_,rfl⟩
   obtain⟨ln,HLN⟩:∃n,Hid (x1.length=n):=⟨_,rfl⟩
   rw[HPN.out] at hpm c0
   rw[HLN.out] at hlm c1
   dsimp only at c2 c3 c4 c5
   clear hkl
   gi_wp2
   obtain⟨W2,hW2⟩:∃W2,wq.alloc (.cells #[.slice pa pn pcap,.slice la ln lcap,.int .i64 x2,.int .i64 x3,.int .i64 x4,.int .i64 x5] 44)=W2:=⟨_,rfl⟩
   obtain⟨X,hX⟩:∃X,wq.heap.size=X:=⟨_,rfl⟩
   have hb2:Below wq.heap.size wq W2:=by rw[←hW2];exact Bel.alloc _ _
   have d1:W2.cell? ⟨X,1,none⟩=some (.slice la ln lcap):=by rw[←hW2,←hX];simp[go_sem]
   have J2:Hid (J pre W2):=abides_grow AJ.out HJ.out hb2
   have F2:Hid (FnAt W2 (.agg #[.slice (some ⟨b,off,none⟩) n bcap,.int .i64 vals]) F):=HFq.out.later hb2
   have P2:Hid (ListAt 0 2 (PhiAt 0) W2 (.slice pa x0.length pcap) x0):=phis_keep HPV.out (Keeps.of_below hb2 0)
   have L2:Hid (ListAt 0 5 InsAt W2 (.slice la x1.length lcap) x1):=places_keep HLV.out (Keeps.of_below hb2 0)
   rw[hW2,hX]
   clear hW2 hX hb2 HPV HLV HJ HFq c0 c1 c2 c3 c4 c5
   gi_loopw [22] (fun i wr=>∃(j:Nat) (pre:List {x // Q x}),j≤pn∧i = .int .i64 j∧pre.map (fun x=>x.1)=makesUp F k ++ phiMakes k (x0.take j)∧J pre wr∧FnAt wr (.agg #[.slice (some ⟨b,off,none⟩) n bcap,.int .i64 vals]) F∧ListAt 0 2 (PhiAt 0) wr (.slice pa x0.length pcap) x0∧ListAt 0 5 InsAt wr (.slice la x1.length lcap) x1∧wr.cell? ⟨X,1,none⟩=some (.slice la ln lcap)) (fun i _=>pn-(intOf i).toNat)
   case atStart=>exact⟨0,pre,Nat.zero_le _,rfl,by rw[HP.out];simp[phiMakes],J2.out,F2.out,P2.out,L2.out,d1⟩
   case round=>
    clear J2 F2 P2 L2 d1
    obtain⟨wp,hwp⟩:∃x,x=wr:=⟨_,rfl⟩
    subst hwp
    obtain⟨j,pre2,hj,rfl,hpre2,hJ2,hF2,hP2,hL2,d1⟩:=hrel
    have HP2:Hid (pre2.map (fun x=>x.1)=makesUp F k ++ phiMakes k (x0.take j)):=hpre2
    have J2:Hid (J pre2 wp):=hJ2
    have F2:Hid (FnAt wp (.agg #[.slice (some ⟨b,off,none⟩) n bcap,.int .i64 vals]) F):=hF2
    have P2:Hid (ListAt 0 2 (PhiAt 0) wp (.slice pa x0.length pcap) x0):=hP2
    have L2:Hid (ListAt 0 5 InsAt wp (.slice la x1.length lcap) x1):=hL2
    clear hpre2 hJ2 hF2 hP2 hL2
    by_cases hltj:(j:Int)<(pn:Int)
    ·have hjl:j<x0.length:=by have:=HPN.out;omega
     obtain⟨p,HX2⟩:∃p,Hid (x0[j]? = some p):=⟨x0[j],List.getElem?_eq_getElem hjl⟩
     obtain⟨b',off',hpa,p0,av,p1,hav⟩:∃b off,pa=some ⟨b,off,none⟩∧PhiAt 0 wp b (off+j*2) p:=by
      obtain⟨a,cap,e,h1,h2⟩:=P2.out
      obtain⟨b,off,ha,_,hc⟩:=h2 (by omega)
      simp at e
      exact⟨b,off,e.1.trans ha,hc j p HX2.out⟩
     subst hpa
     obtain⟨pd,arms⟩:=p
     obtain⟨sa,scap,rfl,-⟩:=hav
     obtain⟨sn,hsn⟩:∃n,arms.length=n:=⟨_,rfl⟩
     rw[hsn] at p1
     dsimp only at p0
     clear hjl
     have hstep:=phiMakes_next (b:=k) HX2.out
     have hin:=pre_in (l:=makesUp F k ++ phiMakes k (x0.take j)) (x:=(pd,(k:Int),-1)) (m:=makesOf F) (by
      have:=makes_phi (k:=j+1) HX.out
      dsimp only at this
      rw[hstep,←List.append_assoc] at this
      exact this)
     have hpre3:(pre2 ++ [(⟨(pd,(k:Int),-1),HQ.out _ hin.1⟩:{x // Q x})]).map (fun x=>x.1)=makesUp F k ++ phiMakes k (x0.take (j+1)):=by
      rw[hstep,List.map_append,HP2.out]
      simp
     have HP3:Hid ((pre2 ++ [(⟨(pd,(k:Int),-1),HQ.out _ hin.1⟩:{x // Q x})]).map (fun x=>x.1)=makesUp F k ++ phiMakes k (x0.take (j+1))):=hpre3
     have hbp:=Bel.alloc wp (.cells #[.int .i64 pd,.slice sa sn scap] 74)
     obtain⟨f1,t1,a1,b1,hy1,hR1⟩:=HY.out pre2 (⟨(pd,(k:Int),-1),HQ.out _ hin.1⟩:{x // Q x}) (wp.alloc (.cells #[.int .i64 pd,.slice sa sn scap] 74)) (abides_grow AJ.out J2.out hbp) (by
      have:=hin.2
      rw[←HP2.out,List.length_map] at this
      exact this)
     have HR1:Hid (RoundIn Fence.wide (m-1) Tryz.prog l f1 t1 a1 b1 (wp.alloc (.cells #[.int .i64 pd,.slice sa sn scap] 74)) fun r W'=>
      (r = .returned (.bool true)∧J (pre2 ++ [(⟨(pd,(k:Int),-1),HQ.out _ hin.1⟩:{x // Q x})]) W'∧KeepsCells (wp.alloc (.cells #[.int .i64 pd,.slice sa sn scap] 74)) W')∨(∃ch,r = .panicked ch∧Jp ch (pre2 ++ [(⟨(pd,(k:Int),-1),HQ.out _ hin.1⟩:{x // Q x})]) W')):=hR1
     have F3:Hid (FnAt (wp.alloc (.cells #[.int .i64 pd,.slice sa sn scap] 74)) (.agg #[.slice (some ⟨b,off,none⟩) n bcap,.int .i64 vals]) F):=F2.out.later hbp
     have P3:Hid (ListAt 0 2 (PhiAt 0) (wp.alloc (.cells #[.int .i64 pd,.slice sa sn scap] 74)) (.slice (some ⟨b',off',none⟩) x0.length pcap) x0):=phis_keep P2.out (Keeps.of_below hbp 0)
     have L3:Hid (ListAt 0 5 InsAt (wp.alloc (.cells #[.int .i64 pd,.slice sa sn scap] 74)) (.slice la x1.length lcap) x1):=places_keep L2.out (Keeps.of_below hbp 0)
     have D3:Hid ((wp.alloc (.cells #[.int .i64 pd,.slice sa sn scap] 74)).cell? ⟨X,1,none⟩=some (.slice la ln lcap)):=Bel.keeps hbp d1
     dsimp only at hy1
     clear hstep hpre3 hR1 hbp d1 F2 P2 L2 J2
     gi_wp2
     refine⟨fun _=>by omega,HR1.out.mono ?_⟩
     rintro r W1 (⟨rfl,hJ1,hk1⟩ | ⟨ch,rfl,hx1⟩)
     ·have J4:Hid (J (pre2 ++ [(⟨(pd,(k:Int),-1),HQ.out _ hin.1⟩:{x // Q x})]) W1):=hJ1
      have K4:Hid (KeepsCells (wp.alloc (.cells #[.int .i64 pd,.slice sa sn scap] 74)) W1):=hk1
      clear hJ1 hk1 HR1
      gi_wp2
      go_roundw
      case rel=>exact⟨j+1,_,by omega,by go_num,HP3.out,J4.out,F3.out.kept K4.out,phis_keep P3.out K4.out.keeps,places_keep L3.out K4.out.keeps,K4.out.cell D3.out⟩
      case measure=>simp[intOf];omega
     ·have X4:Hid (Jp ch (pre2 ++ [(⟨(pd,(k:Int),-1),HQ.out _ hin.1⟩:{x // Q x})]) W1):=hx1
      clear hx1 HR1
      first | exact⟨rfl,.inr ⟨ch,_,rfl,by rw[HP3.out];exact makes_phi (x:=⟨x0,x1,⟨x2,x3,x4,x5⟩⟩) HX.out,X4.out⟩⟩ | (simp only[Exit.then];exact⟨rfl,.inr ⟨ch,_,rfl,by rw[HP3.out];exact makes_phi (x:=⟨x0,x1,⟨x2,x3,x4,x5⟩⟩) HX.out,X4.out⟩⟩) | (simp only[Exit.inBlock,Exit.then];exact⟨rfl,.inr ⟨ch,_,rfl,by rw[HP3.out];exact makes_phi (x:=⟨x0,x1,⟨x2,x3,x4,x5⟩⟩) HX.out,X4.out⟩⟩)
    ·have hjn:pn=j:=by omega
     subst hjn
     have hp3:pre2.map (fun x=>x.1)=makesUp F k ++ phiMakes k x0 ++ insMakes k x1 0:=by
      have:=HP2.out
      rw[←HPN.out,List.take_length] at this
      simpa [insMakes] using this
     have HP3:Hid (pre2.map (fun x=>x.1)=makesUp F k ++ phiMakes k x0 ++ insMakes k x1 0):=hp3
     clear hp3
     clear HP2 P2
     gi_wp2
     gi_loopw [37] (fun i wr=>∃(j:Nat) (pre:List {x // Q x}),j≤ln∧i = .int .i64 j∧pre.map (fun x=>x.1)=makesUp F k ++ phiMakes k x0 ++ insMakes k x1 j∧J pre wr∧FnAt wr (.agg #[.slice (some ⟨b,off,none⟩) n bcap,.int .i64 vals]) F∧ListAt 0 5 InsAt wr (.slice la x1.length lcap) x1) (fun i _=>ln-(intOf i).toNat)
     case atStart=>exact⟨0,pre2,Nat.zero_le _,rfl,HP3.out,J2.out,F2.out,L2.out⟩
     case round=>
      clear J2 F2 L2 d1 HP3
      obtain⟨wp2,hwp⟩:∃x,x=wr:=⟨_,rfl⟩
      subst hwp
      obtain⟨j,pre3,hj,rfl,hpre2,hJ2,hF2,hL2⟩:=hrel
      have HP2:Hid (pre3.map (fun x=>x.1)=makesUp F k ++ phiMakes k x0 ++ insMakes k x1 j):=hpre2
      have J2:Hid (J pre3 wp2):=hJ2
      have F2:Hid (FnAt wp2 (.agg #[.slice (some ⟨b,off,none⟩) n bcap,.int .i64 vals]) F):=hF2
      have L2:Hid (ListAt 0 5 InsAt wp2 (.slice la x1.length lcap) x1):=hL2
      clear hpre2 hJ2 hF2 hL2
      by_cases hltj:(j:Int)<(ln:Int)
      ·have hjl:j<x1.length:=by have:=HLN.out;omega
       obtain⟨p,HX2⟩:∃p,Hid (x1[j]? = some p):=⟨x1[j],List.getElem?_eq_getElem hjl⟩
       obtain⟨b',off',hpa,p0,p1,p2,p3,p4⟩:∃b off,la=some ⟨b,off,none⟩∧InsAt wp2 b (off+j*5) p:=by
        obtain⟨a,cap,e,h1,h2⟩:=L2.out
        obtain⟨b,off,ha,_,hc⟩:=h2 (by omega)
        simp at e
        exact⟨b,off,e.1.trans ha,hc j p HX2.out⟩
       subst hpa
       obtain⟨iop,id,ia,ib,ic⟩:=p
       dsimp only at p0 p1 p2 p3 p4
       obtain⟨md,HMD⟩:∃x,Hid (madeV iop id=x):=⟨_,rfl⟩
       obtain⟨mk,HMK⟩:∃x,Hid (makesV iop=x):=⟨_,rfl⟩
       have JL:j+1≤x1.length:=hjl
       clear hjl
       gi_wp2_with fail
       refine⟨trivial,?_⟩
       refine⟨fun _=>by omega,(callsIn_wide.2 (placeOf_any iop id ia ib ic _)).mono ?_⟩
       rintro e w3 ⟨rfl,b3⟩
       gi_wp2_with fail
       refine⟨trivial,?_⟩
       refine⟨fun _=>by omega,(callsIn_wide.2 (placeDef_any iop id ia ib ic _)).mono ?_⟩
       rw[HMD.out,HMK.out]
       rintro e w4 ⟨rfl,b4⟩
       have hb4:Below wp2.heap.size wp2 w4:=Bel.after (Bel.after (Bel.alloc wp2 (.cells #[.int .i64 iop,.int .i64 id,.int .i64 ia,.int .i64 ib,.int .i64 ic] 46)) b3) b4
       have J4:Hid (J pre3 w4):=abides_grow AJ.out J2.out hb4
       have F4:Hid (FnAt w4 (.agg #[.slice (some ⟨b,off,none⟩) n bcap,.int .i64 vals]) F):=F2.out.later hb4
       have L4:Hid (ListAt 0 5 InsAt w4 (.slice (some ⟨b',off',none⟩) x1.length lcap) x1):=places_keep L2.out (Keeps.of_below hb4 0)
       clear b3 b4 hb4 p0 p1 p2 p3 p4 J2 F2 L2
       cases mk with
       | false=>
        have HP3:Hid (pre3.map (fun x=>x.1)=makesUp F k ++ phiMakes k x0 ++ insMakes k x1 (j+1)):=by
         have:=insMakes_no (b:=k) HX2.out HMK.out
         rw[this]
         exact HP2.out
        gi_wp2
        refine⟨fun _ h=>(by cases h),?_⟩
        gi_wp2
        go_roundw
        case rel=>exact⟨j+1,_,by omega,by go_num,HP3.out,J4.out,F4.out,L4.out⟩
        case measure=>simp[intOf];omega
       | true=>
        have hmd:md=id:=by have h1:=HMD.out;have h2:=HMK.out;unfold madeV at h1;rw[if_pos h2] at h1;exact h1.symm
        subst hmd
        have hstep:=insMakes_yes (b:=k) HX2.out HMK.out
        dsimp only at hstep
        have hin:=pre_in (l:=makesUp F k ++ phiMakes k x0 ++ insMakes k x1 j) (x:=(md,(k:Int),(j:Int))) (m:=makesOf F) (by
         have:=makes_ins (k:=j+1) HX.out JL
         dsimp only at this
         rw[hstep,←List.append_assoc] at this
         exact this)
        have hpre3:(pre3 ++ [(⟨(md,(k:Int),(j:Int)),HQ.out _ hin.1⟩:{x // Q x})]).map (fun x=>x.1)=makesUp F k ++ phiMakes k x0 ++ insMakes k x1 (j+1):=by
         rw[hstep,List.map_append,HP2.out]
         simp
        have HP3:Hid ((pre3 ++ [(⟨(md,(k:Int),(j:Int)),HQ.out _ hin.1⟩:{x // Q x})]).map (fun x=>x.1)=makesUp F k ++ phiMakes k x0 ++ insMakes k x1 (j+1)):=hpre3
        obtain⟨f1,t1,a1,b1,hy1,hR1⟩:=HY.out pre3 (⟨(md,(k:Int),(j:Int)),HQ.out _ hin.1⟩:{x // Q x}) w4 J4.out (by
         have:=hin.2
         rw[←HP2.out,List.length_map] at this
         exact this)
        have HR1:Hid (RoundIn Fence.wide (m-1) Tryz.prog l f1 t1 a1 b1 w4 fun r W'=>
         (r = .returned (.bool true)∧J (pre3 ++ [(⟨(md,(k:Int),(j:Int)),HQ.out _ hin.1⟩:{x // Q x})]) W'∧KeepsCells w4 W')∨(∃ch,r = .panicked ch∧Jp ch (pre3 ++ [(⟨(md,(k:Int),(j:Int)),HQ.out _ hin.1⟩:{x // Q x})]) W')):=hR1
        dsimp only at hy1
        clear hstep hpre3 hR1
        gi_wp2
        refine⟨fun _=>by omega,HR1.out.mono ?_⟩
        rintro r W1 (⟨rfl,hJ1,hk1⟩ | ⟨ch,rfl,hx1⟩)
        ·have J5:Hid (J (pre3 ++ [(⟨(md,(k:Int),(j:Int)),HQ.out _ hin.1⟩:{x // Q x})]) W1):=hJ1
         have K5:Hid (KeepsCells w4 W1):=hk1
         clear hJ1 hk1 HR1
         gi_wp2
         go_roundw
         case rel=>exact⟨j+1,_,by omega,by go_num,HP3.out,J5.out,F4.out.kept K5.out,places_keep L4.out K5.out.keeps⟩
         case measure=>simp[intOf];omega
        ·have X5:Hid (Jp ch (pre3 ++ [(⟨(md,(k:Int),(j:Int)),HQ.out _ hin.1⟩:{x // Q x})]) W1):=hx1
         clear hx1 HR1
         first | exact⟨rfl,.inr ⟨ch,_,rfl,by rw[HP3.out];exact makes_ins (x:=⟨x0,x1,⟨x2,x3,x4,x5⟩⟩) HX.out JL,X5.out⟩⟩ | (simp only[Exit.then];exact⟨rfl,.inr ⟨ch,_,rfl,by rw[HP3.out];exact makes_ins (x:=⟨x0,x1,⟨x2,x3,x4,x5⟩⟩) HX.out JL,X5.out⟩⟩) | (simp only[Exit.inBlock,Exit.then];exact⟨rfl,.inr ⟨ch,_,rfl,by rw[HP3.out];exact makes_ins (x:=⟨x0,x1,⟨x2,x3,x4,x5⟩⟩) HX.out JL,X5.out⟩⟩)
      ·have hjn:ln=j:=by omega
       subst hjn
       have HP4:Hid (pre3.map (fun x=>x.1)=makesUp F (k+1)):=by
        have h1:=makesUp_next HX.out
        have h2:=HP2.out
        rw[←HLN.out] at h2
        rw[h1,h2,List.append_assoc]
        rfl
       gi_wp2
       go_roundw
       case rel=>exact⟨k+1,_,by omega,by go_num,HP4.out,J2.out,F2.out⟩
       case measure=>simp[intOf];omega
  ·have hkn:n=k:=by omega
   subst hkn
   gi_wp2
   go_end0
   have hpm:pre.map (fun x=>x.1)=makesOf F:=by rw[HP.out];unfold makesOf;rw[HN.out]
   first | exact .inl ⟨_,pre,rfl,hpm,HJ.out⟩ | exact .inl ⟨⟨_,rfl⟩,pre,hpm,HJ.out⟩
end Go.Proofs.YtfnilamkapabkaaGreatDoor
namespace Go.Proofs.YtfnilamkapabkaaGreatDoor
open Go.ChangeShapes Go.WideShapes Go.ChangeAt Go.RowKit Go.Shelf
set_option linter.unusedVariables false
variable {F:Fence} {n:Nat} {P:Program}
structure LoopRec (D:Nat)(fn:FuncId)(tmps:Array Value)(ps:Array Tmp)(assign body:Code)(st:LoopState)(pe:Option Code)(W:World):Prop where
 calls:W.heap[D]? = some (.deferred (some []))
 loop:W.heap[D+1]? = some (.loop { state:=st,pending:=pe,fn,tmps,params:=ps,assign,body,defers:=D })
theorem LoopRec.turn {D:Nat}{fn:FuncId}{tmps:Array Value}{ps:Array Tmp}{assign body:Code}{st st':LoopState}{pe pe':Option Code}{W:World}(h:LoopRec D fn tmps ps assign body st pe W) :
  LoopRec D fn tmps ps assign body st' pe' (W.putObj (D+1) (.loop { state:=st',pending:=pe',fn,tmps,params:=ps,assign,body,defers:=D })) :=
 ⟨(World.putObj_heap_other (by omega)).trans h.calls,World.putObj_heap_same (Array.getElem?_eq_some_iff.1 h.loop).1⟩
theorem LoopRec.keep {D:Nat}{fn:FuncId}{tmps:Array Value}{ps:Array Tmp}{assign body:Code}{st:LoopState}{pe:Option Code}{W W':World}(h:LoopRec D fn tmps ps assign body st pe W)(k:KeepsFrom D W W'):LoopRec D fn tmps ps assign body st pe W' :=
 ⟨k.same _ _ (Nat.le_refl _) h.calls rfl,k.same _ _ (by omega) h.loop rfl⟩
end Go.Proofs.YtfnilamkapabkaaGreatDoor
namespace Go.Proofs.YtfnilamkapabkaaGreatDoor
open Go.ChangeShapes Go.WideShapes Go.ChangeAt Go.RowKit Go.Shelf
set_option linter.unusedVariables false
variable {n:Nat} {P:Program}
def wpAt (fn:FuncId)(n:Nat)(P:Program)(c:Code)(Q:Exit→Act→World→Prop)(a:Act)(w:World):Prop :=
 ∀(b:Frame) (k:List Item) (cs:List Frame),b.roundOf=none→b.fn=fn →
  ∃e a' w',Q e a' w'∧ArrivesIn (Machine.fenced P Fence.wide) P (lone (b.atR a (.code c :: k)) cs w) b k cs e a' w'
theorem wpAt_of_wpIn {fn:FuncId}{c:Code}{Q:Exit→Act→World→Prop}{a:Act}{w:World}(h:c.wpIn Fence.wide n P Q a w):wpAt fn n P c Q a w :=
 fun b k cs hro _=>h b k cs hro trivial (room_wide _)
theorem wpAt_seq {fn:FuncId}{x y:Code}{Q:Exit→Act→World→Prop}{a:Act}{w:World}(h:wpAt fn n P x (Exit.then (wpAt fn n P y Q) Q) a w):wpAt fn n P (Code.seq x y) Q a w:=by
 intro b k cs hro hb
 have h0:(lone (b.atR a (.code (.seq x y) :: k)) cs w).fenced P Fence.wide:=fenced_calm (F:=Fence.wide) (n:=n) trivial (room_wide _) rfl
 obtain⟨e,a₁,w₁,hq,harr⟩:=h b (.code y :: k) cs hro hb
 cases e with
 | normal=>
  obtain⟨e₂,a₂,w₂,hq₂,harr₂⟩:=hq b k cs hro hb
  exact⟨e₂,a₂,w₂,hq₂,.of_steps (.head h0 stepR_seq harr) harr₂⟩
 | exit id=>exact⟨_,a₁,w₁,hq,.of_steps (.one h0 stepR_seq) (.pass (x := .code y) rfl (fun _ _=>.inl (by simp)) harr)⟩
 | goto l=>exact⟨_,a₁,w₁,hq,.of_steps (.one h0 stepR_seq) (.pass (x := .code y) rfl (fun _ _=>.inl (by simp)) harr)⟩
 | ret=>exact⟨_,a₁,w₁,hq,.of_steps (.one h0 stepR_seq) (.pass (x := .code y) rfl (fun _ _=>.inl (by simp)) harr)⟩
 | panic ch=>exact⟨_,a₁,w₁,hq,.of_steps (.one h0 stepR_seq) (.pass (x := .code y) rfl (fun _ _=>.inl (by simp)) harr)⟩
 | outgrown=>exact⟨_,a₁,w₁,hq,.of_steps (.one h0 stepR_seq) (.pass (x := .code y) rfl (fun _ _=>.inl (by simp)) harr)⟩
theorem wpAt_seq_k {fn:FuncId}{x y:Code}{Q:Exit→Act→World→Prop}{a:Act}{w:World}(h:∀K:Act→World→Prop,(∀a w,wpAt fn n P y Q a w→K a w)→x.wpIn Fence.wide n P (Exit.then K Q) a w):wpAt fn n P (Code.seq x y) Q a w :=
 wpAt_seq (wpAt_of_wpIn (h _ fun _ _ h=>h))
theorem wpAt_block {fn:FuncId}{id:Nat}{c:Code}{Q:Exit→Act→World→Prop}{a:Act}{w:World}(h:wpAt fn n P c (Exit.inBlock id Q) a w):wpAt fn n P (Code.block id c) Q a w:=by
 intro b k cs hro hb
 have hr:Fence.wide.room (cs.length+1+n):=room_wide _
 have hbF:Fence.wide.fn b.fn:=trivial
 have h0:(lone (b.atR a (.code (.block id c) :: k)) cs w).fenced P Fence.wide:=fenced_calm hbF hr rfl
 obtain⟨e,a₁,w₁,hq,harr⟩:=h b (.inBlock id :: k) cs hro hb
 cases e with
 | normal=>exact⟨.normal,a₁,w₁,hq,.head h0 stepR_block (StepsIn.trans harr (.one (fenced_calm hbF hr rfl) stepR_inBlock))⟩
 | exit id'=>
  by_cases hid:id'=id
  ·simp only[Exit.inBlock,hid,if_true] at hq
   exact⟨.normal,a₁,w₁,hq,.head h0 stepR_block (harr.1 k (by simp[exitTo,hid]))⟩
  ·simp only[Exit.inBlock,hid,if_false] at hq
   have this:(id == id')=false:=by simp;exact fun h=>hid h.symm
   have hx:exitTo id' (.inBlock id :: k)=exitTo id' k:=by simp[exitTo,this]
   exact⟨.exit id',a₁,w₁,hq,fun k' hk=>.head h0 stepR_block (harr.1 k' (by rw[hx];exact hk)),
    fun hr' hk=>let ⟨k₁,h1,h2⟩:=harr.2 hr' (by rw[hx];exact hk);⟨k₁,h1,.head h0 stepR_block h2⟩⟩
 | goto l=>
  have hx:gotoIn l (.inBlock id :: k)=gotoIn l k:=by simp[gotoIn]
  exact⟨_,a₁,w₁,hq,fun k' hk=>.head h0 stepR_block (harr.1 k' (by rw[hx];exact hk)),
   fun hr' hk=>let ⟨k₁,h1,h2⟩:=harr.2 hr' (by rw[hx];exact hk);⟨k₁,h1,.head h0 stepR_block h2⟩⟩
 | ret=>exact⟨_,a₁,w₁,hq,.of_steps (.one h0 stepR_block) harr⟩
 | panic ch=>exact⟨_,a₁,w₁,hq,.of_steps (.one h0 stepR_block) harr⟩
 | outgrown=>exact⟨_,a₁,w₁,hq,.of_steps (.one h0 stepR_block) harr⟩
theorem callsIn_of_wpAt {f:FuncId}{fn:Func}{c:Code}{args:Array Value}{w:World}{R:Ending→World→Prop}
  (hf:P.funcs[f]? = some fn) (hb:fn.body=some c)
  (h:wpAt f n P c (bodyPostM Fence.wide n P fn R) { tmps:=args ++ Array.replicate (fn.ntmps-args.size) undef,defers := [] } w):CallsIn Fence.wide n P f args w R:=by
 refine⟨trivial,fun cs hr=>?_⟩
 let b:Frame := { (default:Frame) with fn:=f,kind := .normal,roundOf:=none }
 have henter:Frame.enter P f args .normal =
   b.atR { tmps:=args ++ Array.replicate (fn.ntmps-args.size) undef,defers := [] } [.code c]:=by
  simp[Frame.enter,Frame.atR,hf,hb,b]
 have hF:Fence.wide.fn f:=trivial
 obtain⟨e,a',w',hq,harr⟩:=h b [] cs rfl rfl
 rw[←henter] at harr
 cases e with
 | normal=>
  obtain⟨e',w'',fr',hR,hs,hfn,hl⟩:=leaves_stepsInM a'.defers .returning w' { b.atR a' [] with mode := .returning } cs rfl rfl rfl hf rfl hF hr hq
  exact⟨e',w'',fr',hR,ComesIn.of_steps (StepsIn.trans harr (.one (fenced_calm (fr:=b.atR a' []) hF hr rfl) (stepR_end rfl))) hs,hfn,hl⟩
 | ret=>
  obtain⟨todo,hs₀⟩:=harr.1 rfl
  obtain⟨e',w'',fr',hR,hs,hfn,hl⟩:=leaves_stepsInM a'.defers .returning w' { b.atR a' todo with mode := .returning } cs rfl rfl rfl hf rfl hF hr hq
  exact⟨e',w'',fr',hR,ComesIn.of_steps hs₀ hs,hfn,hl⟩
 | panic chain=>
  obtain⟨todo,hs₀⟩:=harr
  obtain⟨e',w'',fr',hR,hs,hfn,hl⟩:=leaves_stepsInM a'.defers (.panicking chain) w' { b.atR a' todo with mode := .panicking chain } cs rfl rfl rfl hf rfl hF hr hq
  exact⟨e',w'',fr',hR,ComesIn.of_steps hs₀ hs,hfn,hl⟩
 | exit id=>exact hq.elim
 | goto l=>exact hq.elim
 | outgrown=>exact⟨.outgrown,w',b,hq,harr.resolve_left (by simp[b]),rfl,trivial⟩
def roundPostP (P:Program)(l:Nat)(R:Ending→World→Prop):Exit→Act→World→Prop
 | .normal,_,w=>∃v w',(Instr.endRound l none).run P w = .ok v w'∧R (.returned v) w'
 | .ret,_,w=>∃v w',(Instr.endRound l (some .ret)).run P w = .ok v w'∧R (.returned v) w'
 | .exit id,_,w=>∃v w',(Instr.endRound l (some (.exit id))).run P w = .ok v w'∧R (.returned v) w'
 | .goto t,_,w=>∃v w',(Instr.endRound l (some (.goto t))).run P w = .ok v w'∧R (.returned v) w'
 | .panic chain,a,w=>a.defers = []∧R (.panicked chain) w
 | .outgrown,_,_=>False
theorem roundIn_panic {l:Nat}{f:FuncId}{fd:Func}{tmps:Array Value}{assign body:Code}{w:World}{R:Ending→World→Prop}(hf:P.funcs[f]? = some fd)
  (h:assign.wpIn (Fence.wide.inRound l) n P (Exit.then (fun a₁ w₁=>∃w₂,(Instr.beginRound l).run P w₁ = .ok () w₂∧body.wpIn (Fence.wide.inRound l) n P (roundPostP P l R) a₁ w₂) (fun _ _ _=>False))
   { tmps:=tmps,defers := [] } w) :
  RoundIn Fence.wide n P l f tmps assign body w R:=by
 refine⟨trivial,fun c cs hr=>?_⟩
 let b:Frame := { (default:Frame) with fn:=f,kind := .normal,roundOf:=some l }
 have hb0:Frame.round l f tmps assign body .normal=b.atR { tmps:=tmps,defers := [] } [.code assign,.beginRound,.code body]:=by
  simp[Frame.round,Frame.atR,b]
 have hr':(Fence.wide.inRound l).room ((c :: cs).length+1+n):=hr
 have hF':(Fence.wide.inRound l).fn b.fn:=trivial
 obtain⟨e,a₁,w₁,hq,harr⟩:=h b [.beginRound,.code body] (c :: cs) rfl hF' hr'
 rw[←hb0] at harr
 cases e with
 | normal=>
  obtain⟨w₂,hbr,hbody⟩:=hq
  have s1:StepsIn (Machine.fenced P (Fence.wide.inRound l)) P (lone (b.atR a₁ [.beginRound,.code body]) (c :: cs) w₁) (lone (b.atR a₁ [.code body]) (c :: cs) w₂) :=
   .one (fenced_calm (fr:=b.atR a₁ [.beginRound,.code body]) hF' hr' rfl) (stepR_beginRound rfl hbr)
  obtain⟨e₂,a₂,w₃,hq₂,harr₂⟩:=hbody b [] (c :: cs) rfl hF' hr'
  cases e₂ with
  | normal=>
   obtain⟨v,w₄,hend,hR⟩:=hq₂
   exact⟨.returned v,w₄,hR,(StepsIn.trans harr s1).trans (StepsIn.trans harr₂ (.one (fenced_calm (fr:=b.atR a₂ []) hF' hr' rfl) (stepR_round_end rfl rfl hend)))⟩
  | ret=>
   obtain⟨v,w₄,hend,hR⟩:=hq₂
   obtain⟨k₁,hs⟩:=harr₂.2 rfl
   exact⟨.returned v,w₄,hR,(StepsIn.trans harr s1).trans (StepsIn.trans hs (.one (fenced_calm (fr:=b.atR a₂ (.code .ret :: k₁)) hF' hr' rfl) (stepR_round_ret rfl rfl hend)))⟩
  | exit id=>
   obtain⟨v,w₄,hend,hR⟩:=hq₂
   obtain⟨k₁,hk,hs⟩:=harr₂.2 rfl rfl
   exact⟨.returned v,w₄,hR,(StepsIn.trans harr s1).trans (StepsIn.trans hs (.one (fenced_calm (fr:=b.atR a₂ (.code (.exit id) :: k₁)) hF' hr' rfl) (stepR_round_exit rfl rfl hk hend)))⟩
  | goto t=>
   obtain⟨v,w₄,hend,hR⟩:=hq₂
   obtain⟨k₁,hk,hs⟩:=harr₂.2 rfl rfl
   exact⟨.returned v,w₄,hR,(StepsIn.trans harr s1).trans (StepsIn.trans hs (.one (fenced_calm (fr:=b.atR a₂ (.code (.goto t) :: k₁)) hF' hr' rfl) (stepR_round_goto rfl rfl hk hend)))⟩
  | panic chain=>
   obtain⟨hd,hR⟩:=hq₂
   obtain⟨todo,hs⟩:=harr₂
   have hl:({ b.atR a₂ todo with mode := .panicking chain }:Frame).leaving P w₃ (.panicked chain):=⟨rfl,hd,fd,hf⟩
   exact⟨.panicked chain,w₃,hR,(StepsIn.trans harr s1).trans (StepsIn.trans hs (.one (fenced_leaving (F:=Fence.wide) (n:=n) trivial hr' hl) (step_leave_panicked hl)))⟩
  | outgrown=>exact hq₂.elim
 | exit id=>exact hq.elim
 | goto t=>exact hq.elim
 | ret=>exact hq.elim
 | panic chain=>exact hq.elim
 | outgrown=>exact hq.elim
theorem wpAt_rangeFunc {fn:FuncId}{g:Operand}{ps:Array Tmp}{assign body:Code}{Q:Exit→Act→World→Prop}{a:Act}{w:World}
  (h:∃(l:Nat) (mark:List Deferred) (w₁:World) (d:Deferred) (w₁':World) (f:FuncId) (args:Array Value) (w₂:World),
   (Instr.enterLoop fn a.tmps ps assign body none).run P w = .ok (l,mark) w₁ ∧
   (resolve a.eval (rangeCall g l) 0).run P w₁ = .ok d w₁' ∧
   (invoke d.target d.args).run P w₁' = .ok (.enter f args) w₂ ∧
   CallsIn Fence.wide (n-1) P f args w₂ (rangePost Fence.wide n P l Q { a with defers:=mark ++ a.defers })) :
  wpAt fn n P (Code.rangeFunc g ps assign body) Q a w:=by
 obtain⟨l,mark,w₁,d,w₁',f,args,w₂,he,hres,hinv,hF,hcall⟩:=h
 intro b k cs hro hb
 rw[←hro,←hb] at he
 have hr:Fence.wide.room (cs.length+1+n):=room_wide _
 have hbF:Fence.wide.fn b.fn:=trivial
 have h0:(lone (b.atR a (.code (.rangeFunc g ps assign body) :: k)) cs w).fenced P Fence.wide:=fenced_lone (.inl trivial) (fun _ _=>trivial) (room_wide _)
 have henter:=stepR_rangeFunc (P:=P) (b:=b) (a:=a) (k:=k) (cs:=cs) (w:=w) he hres hinv
 have hroom:Fence.wide.room ((b.atR { a with defers:=mark ++ a.defers } (.inRangeFunc l :: k) :: cs).length+1+(n-1)):=room_wide _
 obtain⟨e,w₃,fr,hR,hsteps,hfn,hleave⟩:=hcall (b.atR { a with defers:=mark ++ a.defers } (.inRangeFunc l :: k) :: cs) hroom
 cases e with
 | outgrown=>
  obtain⟨a₀,w₀,hq⟩:=hR
  exact⟨.outgrown,a₀,w₀,hq,.inr (Outgrown.of_steps (.one henter) hsteps)⟩
 | returned v=>
  have hl:(lone fr (b.atR { a with defers:=mark ++ a.defers } (.inRangeFunc l :: k) :: cs) w₃).fenced P Fence.wide:=fenced_leaving (hfn▸hF) hroom hleave
  obtain⟨jump,w₄,hend,hj⟩:=hR
  have sback:StepsIn (Machine.fenced P Fence.wide) P (lone (b.atR a (.code (.rangeFunc g ps assign body) :: k)) cs w) (lone (b.atR { a with defers:=mark ++ a.defers } ((jump.map Item.code).toList ++ k)) cs w₄):=by
   refine .head h0 henter (StepsIn.trans hsteps (.head hl ?_ (.one (fenced_calm (fr:=b.atR { a with defers:=mark ++ a.defers } (.endRangeFunc l :: k)) hbF hr rfl) (stepR_endRangeFunc hend))))
   rw[←finish_atR_inRangeFunc l v];exact step_leave_returned hleave
  cases jump with
  | none=>exact⟨.normal,_,w₄,hj,sback⟩
  | some c=>
   obtain⟨e',a'',w₅,hq,harr⟩:=hj b k cs hro hbF hr
   exact⟨e',a'',w₅,hq,.of_steps sback harr⟩
 | panicked chain=>
  have hl:(lone fr (b.atR { a with defers:=mark ++ a.defers } (.inRangeFunc l :: k) :: cs) w₃).fenced P Fence.wide:=fenced_leaving (hfn▸hF) hroom hleave
  refine⟨.panic chain,_,w₃,hR,.inRangeFunc l :: k,.head h0 henter (StepsIn.trans hsteps (.one hl ?_))⟩
  rw[←Frame.raise_atR];exact step_leave_panicked hleave
def SeqStopsP {α:Type}(n:Nat)(P:Program)(g:Nat)(lb:Array Value)(encs:α→Array Value)(Kp:World→World→Prop)(S Sp:List α→Prop)(N:Nat)(w:World):Prop :=
 ∀(l:Nat) (J:List α→World→Prop) (Jp:List PanicEntry→List α→World→Prop) (W:World),Below w.heap.size w W→AbidesFrom W.heap.size J →
  (∀pre x W1,J pre W1→pre.length<N→YieldAt Fence.wide (n-1) P l (encs x) W1 fun e W'=>
   (e = .returned (.bool true)∧J (pre ++ [x]) W'∧Kp W1 W')∨(∃ch,e = .panicked ch∧Jp ch (pre ++ [x]) W')) →
  J [] W →
  CallsIn Fence.wide n P g (#[.func (.yield l) #[] #[]] ++ lb) W fun e W'=>(∃v xs,e = .returned v∧S xs∧J xs W')∨(∃ch pre,e = .panicked ch∧Sp pre∧Jp ch pre W')
def ownPostP {α:Type}(B:Nat)(Kp:World→World→Prop)(I:List α→World→Prop)(Ip:List PanicEntry→List α→World→Prop)(xs:List α)(W:World):Exit→Act→World→Prop
 | .normal,_,W'=>KeepsFrom B W W'∧Kp W W'∧I xs W'
 | .panic ch,a,W'=>a.defers = []∧KeepsFrom B W W'∧Ip ch xs W'
 | _,_,_=>False
theorem wpAt_rangeFunc_box {α:Type}{fn:FuncId}{fd:Func}(hfn:P.funcs[fn]? = some fd){g:Operand}{ps:Array Tmp}{assign body:Code}{Q:Exit→Act→World→Prop}{a:Act}{w:World}
  {gf:Nat} {lb:Array Value} (hg:a.eval g = .func (.func gf) #[] lb) (eg:∀args w,(callFunc gf args).run P w = .ok (.enter gf args) w)
  {encs:α→Array Value} {Kp:World→World→Prop} {S Sp:List α→Prop} {N:Nat} {w0:World} (hseq:SeqStopsP (n-1) P gf lb encs Kp S Sp N w0)
  (hKt:∀{A B C:World},Kp A B→Kp B C→Kp A C) (hKb:∀(W:World) (l:Nat) (o o':Obj),w.heap.size≤l→W.heap[l]? = some o→o.isCells=false→o.isWalk=false→Kp W (W.putObj l o')) (hb0:Below w0.heap.size w0 w) (hps:∀x,(encs x).size=ps.size)
  (I:List α→World→Prop) (Ip:List PanicEntry→List α→World→Prop) (A:List α→α→Act→World→Prop) (hI:OwnFrom w.heap.size I) (hA:∀pre x a₁,OwnFrom w.heap.size (fun(_:Unit) W=>A pre x a₁ W)) (h0:I [] w)
  (hassign:∀(l:Nat) (pre:List α) (x:α) (W:World) (K:Act→World→Prop),I pre W→(∀a₁ W₁,A pre x a₁ W₁→KeepsFrom w.heap.size W W₁→Kp W W₁→K a₁ W₁) →
   assign.wpIn (Fence.wide.inRound l) (n-1-1) P (Exit.then K (fun _ _ _=>False)) { tmps:=(ps.zip (encs x)).foldl (fun t (p,v)=>t.setIfInBounds p v) a.tmps,defers := [] } W)
  (hbody:∀(l:Nat) (pre:List α) (x:α) (a₁:Act) (W:World),A pre x a₁ W→pre.length<N→body.wpIn (Fence.wide.inRound l) (n-1-1) P (ownPostP w.heap.size Kp I Ip (pre ++ [x]) W) a₁ W)
  (hdone:∀(D:Nat) (xs:List α) (W:World),w.heap.size≤D→S xs→I xs W→W.heap[D]? = some (.deferred (some []))→Q .normal { a with defers := { target := .collected D,args := #[] } :: a.defers } W)
  (hpanic:∀(D:Nat) (ch:List PanicEntry) (pre:List α) (W:World),w.heap.size≤D→Sp pre→Ip ch pre W→W.heap[D]? = some (.deferred (some []))→Q (.panic ch) { a with defers := { target := .collected D,args := #[] } :: a.defers } W) :
  wpAt fn n P (Code.rangeFunc g ps assign body) Q a w:=by
 refine wpAt_rangeFunc ?_
 have start:=run_enterLoop_outer (P:=P) (w:=w) fn a.tmps ps assign body
 obtain⟨w1,e1⟩:∃x,(w.alloc (.deferred (some []))).alloc (.loop { state := .ready,pending:=none,fn,tmps:=a.tmps,params:=ps,assign,body,defers:=w.heap.size })=x:=⟨_,rfl⟩
 rw[e1] at start
 have r1:LoopRec w.heap.size fn a.tmps ps assign body .ready none w1:=by
  subst e1
  refine⟨(Below.heap_alloc _ _ _ (by simp)).trans (World.alloc_heap_new w _),?_⟩
  have h:=World.alloc_heap_new (w.alloc (.deferred (some []))) (.loop { state := .ready,pending:=none,fn,tmps:=a.tmps,params:=ps,assign,body,defers:=w.heap.size })
  rwa [World.size_alloc] at h
 have i1:I [] w1:=by subst e1;exact hI.alloc _ (hI.alloc _ h0)
 have s1:w1.heap.size=w.heap.size+2:=by subst e1;simp
 have b1:Below w0.heap.size w0 w1:=by
  subst e1
  exact hb0.trans ((((Below.refl _ w).alloc (Nat.le_refl _) _).alloc (by simp) _).mono hb0.size)
 clear e1
 refine⟨w.heap.size+1,[{ target := .collected w.heap.size,args := #[] }],w1,{ target := .fn (.func gf) lb,args := #[.func (.yield (w.heap.size+1)) #[] #[]] },w1,gf,#[.func (.yield (w.heap.size+1)) #[] #[]] ++ lb,w1,start,?_,?_,?_⟩
 ·simp only[resolve,hg]
  simp[go_sem]
 ·simp[invoke,go_sem,eg]
 ·-- a step of the iterator's own turns neither what the caller says nor the record
  have own:∀{X Y:World} {row:Option Nat},(∀r,row=some r→w1.heap.size≤r∧∃o:Obj,X.heap[r]? = some o∧o.isWalk=true)→∀r,row=some r→w.heap.size≤r∧∃o:Obj,X.heap[r]? = some o∧o.isCells=false:=fun h r e=>by
   obtain⟨h1,o,h2,h3⟩:=h r e
   exact⟨by omega,o,h2,Obj.not_cells_of_walk h3⟩
  have recs:∀{st:LoopState} {pe:Option Code} {X Y:World} {row:Option Nat},LoopRec w.heap.size fn a.tmps ps assign body st pe X→X.grownBy Y row→(∀r,row=some r→w1.heap.size≤r∧∃o:Obj,X.heap[r]? = some o∧o.isWalk=true)→LoopRec w.heap.size fn a.tmps ps assign body st pe Y:=fun h hg' hr=>
   ⟨(grownBy_keeps hg' (fun r e=>(hr r e).2) h.calls rfl).trans h.calls,(grownBy_keeps hg' (fun r e=>(hr r e).2) h.loop rfl).trans h.loop⟩
  refine(hseq (w.heap.size+1) (fun pre W=>I pre W∧LoopRec w.heap.size fn a.tmps ps assign body .ready none W) (fun ch pre W=>Ip ch pre W∧W.heap[w.heap.size]? = some (.deferred (some []))) w1 b1
   (fun s X Y row hs hg' hr=>⟨hI s X Y row hs.1 hg' (own (Y:=Y) hr),recs hs.2 hg' hr⟩) ?_ ⟨i1,r1⟩).mono ?_
  ·rintro pre x W ⟨hi,hl⟩ hlen
   refine⟨fn,_,assign,body,run_yield (P:=P) (args:=encs x) hl.loop (hps x),roundIn_panic hfn (hassign _ pre x W _ hi fun a₁ W₁ ha hk1 hp1=>?_)⟩
   have l1:=hl.keep hk1
   refine⟨_,run_beginRound l1.loop rfl,?_⟩
   have l2:=l1.turn (st' := .busy) (pe':=none)
   have hp2:Kp W (W₁.putObj (w.heap.size+1) (.loop { state := .busy,pending:=none,fn,tmps:=a.tmps,params:=ps,assign,body,defers:=w.heap.size })):=hKt hp1 (hKb _ _ _ _ (by omega) l1.loop rfl rfl)
   refine wpIn_mono (hbody _ pre x a₁ _ ((hA pre x a₁).putObj (s:=()) _ ha (by omega) l1.loop rfl) hlen) ?_
   intro e a3 W3 hp
   cases e with
   | normal=>
    obtain⟨hk3,hkp3,hi3⟩:=hp
    have l3:=l2.keep hk3
    exact⟨_,_,run_endRound none l3.loop,.inl ⟨rfl,⟨hI.putObj _ hi3 (by omega) l3.loop rfl,l3.turn⟩,hKt (hKt hp2 hkp3) (hKb _ _ _ _ (by omega) l3.loop rfl rfl)⟩⟩
   | panic ch=>
    obtain⟨hd,hk3,hi3⟩:=hp
    have l3:=l2.keep hk3
    exact⟨hd,.inr ⟨ch,rfl,hi3,l3.calls⟩⟩
   | ret=>exact hp.elim
   | exit id=>exact hp.elim
   | goto t=>exact hp.elim
   | outgrown=>exact hp.elim
  ·rintro e W2 (⟨v,xs,rfl,hS,hi,hl⟩ | ⟨ch,pre,rfl,hSp,hi,hl⟩)
   ·exact⟨none,_,run_endLoop hl.loop (by simp),hdone _ xs _ (Nat.le_refl _) hS (hI.putObj _ hi (by omega) hl.loop rfl) ((World.putObj_heap_other (by omega)).trans hl.calls)⟩
   ·exact hpanic _ ch pre _ (Nat.le_refl _) hSp hi hl
end Go.Proofs.YtfnilamkapabkaaGreatDoor
namespace Go.Proofs.YtfnilamkapabkaaGreatDoor
open Go.ChangeShapes Go.WideShapes Go.ChangeAt Go.RowKit Go.Shelf
set_option linter.unusedVariables false
theorem mem_insMakes {b:Nat}{l:List InsD}{m:Made}:∀{k:Nat},m∈insMakes b l k→∃(j:Nat) (i:InsD),l[j]? = some i∧makesV i.op=true∧m=(i.d,(b:Int),(j:Int))
 | 0,h=>by cases h
 | k+1,h=>by
  unfold insMakes at h
  rcases List.mem_append.1 h with h | h
  ·exact mem_insMakes h
  ·split at h
   ·rename_i x hx
    split at h
    ·rename_i hm
     simp at h
     exact⟨k,x,hx,hm,h⟩
    ·cases h
   ·cases h
theorem mem_makesUp {F:FnD}{m:Made}:∀{k:Nat},m∈makesUp F k→∃(b:Nat) (x:BlockD),F.blocks[b]? = some x∧m∈blockMakes b x
 | 0,h=>by cases h
 | k+1,h=>by
  unfold makesUp at h
  rcases List.mem_append.1 h with h | h
  ·exact mem_makesUp h
  ·split at h
   ·rename_i x hx
    exact⟨k,x,hx,h⟩
   ·cases h
end Go.Proofs.YtfnilamkapabkaaGreatDoor
namespace Go.Proofs.YtfnilamkapabkaaGreatDoor
open Go.ChangeShapes Go.WideShapes Go.ChangeAt Go.RowKit Go.Shelf
set_option linter.unusedVariables false
def CopyIn (F:FnD):Prop := ∃(b:Nat) (x:BlockD) (i:Nat) (y:InsD),F.blocks[b]? = some x∧x.list[i]? = some y∧y.op=25
def AllReached (F:FnD):Prop := ∀b,b<F.blocks.length→b∈(wayOf F).1
def EntryBad (F:FnD):Prop:=(∃x:BlockD,F.blocks[0]? = some x∧0<x.phis.length)∨0<(predsN F 0).length
def ArmsFit (F:FnD)(b:Nat)(p:PhiD):Prop:=p.arms.length=(predsN F (b:Int)).length∧∀a∈p.arms,a.fr∈predsN F (b:Int)
def ArmsAll (F:FnD):Prop := ∀(b:Nat) (x:BlockD),F.blocks[b]? = some x→∀p∈x.phis,ArmsFit F b p
def MadeOnce (F:FnD):Prop:=((makesOf F).map (fun m=>m.1)).Nodup
def Known (F:FnD)(v:Int)(b:Nat)(at_:Int):Prop:=if (defAtOf F v).1=(b:Int) then(defAtOf F v).2<at_ else 0≤(defAtOf F v).1∧(defAtOf F v).1∈domsN F b
def listLen (F:FnD)(b:Nat):Int:=match F.blocks[b]? with | some x=>(x.list.length:Int) | none=>0
def TakenIn (F:FnD)(b:Nat)(x:BlockD):Prop :=
 (∀(k:Nat) (y:InsD),x.list[k]? = some y→∀v∈usesV y.op y.a y.b,Known F v b (k:Int))∧(∀v∈endsV x.term.k x.term.a,Known F v b (x.list.length:Int))∧∀p∈x.phis,∀a∈p.arms,Known F a.v a.fr.toNat (listLen F a.fr.toNat)
def TakenAll (F:FnD):Prop := ∀(b:Nat) (x:BlockD),F.blocks[b]? = some x→TakenIn F b x
open Classical in
noncomputable def checkOf (F:FnD):Int :=
 if ¬FnShape F∨CopyIn F then 1 else if ¬AllReached F then 2 else if EntryBad F then 3 else if ¬ArmsAll F then 4 else if ¬MadeOnce F then 5 else if ¬TakenAll F then 6 else 0
end Go.Proofs.YtfnilamkapabkaaGreatDoor
namespace Go.Proofs.YtfnilamkapabkaaGreatDoor
open Go.ChangeShapes Go.WideShapes Go.ChangeAt Go.RowKit Go.Shelf
set_option linter.unusedVariables false
end Go.Proofs.YtfnilamkapabkaaGreatDoor
namespace Go.Proofs.YtfnilamkapabkaaGreatDoor
open Go.ChangeShapes Go.WideShapes Go.ChangeAt Go.RowKit Go.Shelf
set_option linter.unusedVariables false
theorem domsN_mem {F:FnD}(h:FnShape F){a b:Nat}:decide ((a:Int)∈domsN F b)=domB F a b:=by
 unfold domB
 refine decide_eq_decide.2 ?_
 unfold domsN domsUp
 simp only[List.mem_map,List.mem_filter,List.mem_range]
 constructor
 ·rintro⟨x,⟨_,hx⟩,e⟩
  obtain rfl:x=a:=by omega
  exact domB_iff.1 hx
 ·intro hd
  exact⟨a,⟨(dom_lt h hd).1,domB_iff.2 hd⟩,rfl⟩
end Go.Proofs.YtfnilamkapabkaaGreatDoor
namespace Go.Proofs.YtfnilamkapabkaaGreatDoor
open Go.ChangeShapes Go.WideShapes Go.ChangeAt Go.RowKit Go.Shelf
set_option linter.unusedVariables false
theorem nodup_perm {α:Type}[DecidableEq α]:∀(l m:List α),l.Nodup→(∀x∈l,x∈m)→m.length≤l.length→l.Perm m
 | [],m,_,_,hl=>by
  have:m = []:=List.length_eq_zero_iff.1 (by simpa using hl)
  subst this
  exact List.Perm.refl _
 | x :: l,m,h,hs,hl=>by
  have hx:x∈m:=hs x (by simp)
  obtain⟨h1,h2⟩:=List.nodup_cons.1 h
  have h3:=nodup_perm l (m.erase x) h2 (fun y hy=>(List.mem_erase_of_ne (a:=y) (b:=x) (by rintro rfl;exact h1 hy)).2 (hs y (by simp[hy]))) (by
   rw[List.length_erase_of_mem hx]
   simp at hl
   omega)
  exact(h3.cons x).trans (List.perm_cons_erase hx).symm
theorem sorted_eq (l m:List Int)(h1:l.Pairwise (·≤·))(h2:m.Pairwise (·≤·))(hp:l.Perm m):l=m :=
 List.Perm.eq_of_pairwise (le:=fun a b=>decide (a≤b)) (by intros;simp_all;omega) (by simpa using h1) (by simpa using h2) hp
def fromsL (p:PhiD):List Int:=p.arms.map (fun a=>a.fr)
def sortI (l:List Int):List Int:=l.mergeSort fun x y=>decide (x≤y)
theorem sortI_len (l:List Int):(sortI l).length=l.length:=(List.mergeSort_perm l _).length_eq
theorem sortI_up (l:List Int):(sortI l).Pairwise (·≤·):=by
 have h:=List.pairwise_mergeSort (le:=fun x y:Int=>decide (x≤y)) (by intro a b c h1 h2;simp at h1 h2 ⊢;omega) (by intro a b;simp;omega) l
 exact h.imp (fun h=>by simpa using h)
theorem froms_once {B V:Int}{p:PhiD}(h:PhiOk B V p):(fromsL p).Nodup:=by
 unfold fromsL List.Nodup
 rw[List.pairwise_map,List.pairwise_iff_getElem]
 intro i j hi hj hij he
 have h2:=(h.2.2 j _ hj (List.getElem?_eq_getElem hj)).2.2 i _ hij (List.getElem?_eq_getElem hi)
 rw[he] at h2
 simp at h2
theorem preds_up (F:FnD)(b:Int):(predsN F b).Pairwise (· < ·):=by
 unfold predsN predsUp
 rw[List.pairwise_map]
 refine(List.Pairwise.filter _ List.pairwise_lt_range).imp ?_
 intro a b h
 omega
theorem preds_up2 (F:FnD)(b:Int):(predsN F b).Pairwise (·≤·):=(preds_up F b).imp (fun h=>by omega)
theorem arms_fit {F:FnD}{b:Nat}{B V:Int}{p:PhiD}(h:PhiOk B V p):sortI (fromsL p)=predsN F (b:Int)↔ArmsFit F b p:=by
 constructor
 ·intro e
  refine⟨?_,fun a ha=>?_⟩
  ·rw[←e,sortI_len]
   simp[fromsL]
  ·rw[←e]
   exact(List.mergeSort_perm (fromsL p) _).mem_iff.2 (List.mem_map_of_mem ha)
 ·rintro⟨h1,h2⟩
  refine sorted_eq _ _ (sortI_up _) (preds_up2 F _) ((List.mergeSort_perm _ _).trans ?_)
  refine nodup_perm _ _ (froms_once h) (fun x hx=>?_) (by rw[←h1];simp[fromsL])
  obtain⟨a,ha,rfl⟩:=List.mem_map.1 hx
  exact h2 a ha
end Go.Proofs.YtfnilamkapabkaaGreatDoor
namespace Go.Proofs.YtfnilamkapabkaaGreatDoor
open Go.ChangeShapes Go.WideShapes Go.ChangeAt Go.RowKit Go.Shelf
set_option linter.unusedVariables false
theorem ins_takes_in {V op d a b n:Int}(h:insOkV V op d a b n=true):∀v∈usesV op a b,0≤v∧v<V:=by
 intro v hv
 unfold insOkV at h
 unfold usesV at hv
 by_cases h1:1≤op∧op≤10
 ·rw[if_pos h1] at h
  rw[if_pos (.inl h1)] at hv
  simp[valIn] at h hv
  rcases hv with rfl | rfl <;> omega
 ·rw[if_neg h1] at h
  by_cases h2:op=22
  ·subst h2
   rw[if_pos (.inr rfl)] at hv
   simp[valIn] at h hv
   rcases hv with rfl | rfl <;> omega
  ·rw[if_neg (by rintro(h3 | h3) <;> contradiction)] at hv
   by_cases h3:op=21∨op=23∨op=25
   ·rw[if_pos h3] at hv
    simp at hv
    subst hv
    rcases h3 with rfl | rfl | rfl <;> simp[valIn] at h <;> omega
   ·rw[if_neg h3] at hv
    simp at hv
theorem term_takes_in {B V k a t e:Int}(h:termOkV B V k a t e=true):∀v∈endsV k a,0≤v∧v<V:=by
 intro v hv
 unfold termOkV at h
 unfold endsV at hv
 by_cases h1:k=2∨k=3
 ·rw[if_pos h1] at hv
  simp at hv
  subst hv
  rcases h1 with rfl | rfl <;> simp[valIn] at h <;> omega
 ·rw[if_neg h1] at hv
  simp at hv
theorem wf_val {F:FnD}(hS:FnShape F){v:Int}(h:0≤v∧v<F.values):(Lit.int .i64 v).wf=true:=by
 have h1:=hS.2.2.2.1
 obtain⟨n,rfl⟩:∃n:Nat,v=(n:Int):=⟨v.toNat,by omega⟩
 exact wf_small (by omega)
theorem takes_wf {F:FnD}(hS:FnShape F):∀(b:Nat) (x:BlockD),F.blocks[b]? = some x→(∀(k:Nat) (y:InsD),x.list[k]? = some y→∀v∈usesV y.op y.a y.b,(Lit.int .i64 v).wf=true)∧∀v∈endsV x.term.k x.term.a,(Lit.int .i64 v).wf=true:=by
 intro b x hx
 have h:=hS.2.2.2.2 b x hx
 exact⟨fun k y hy v hv=>wf_val hS (ins_takes_in (h.2.2.2.1 k y hy) v hv),fun v hv=>wf_val hS (term_takes_in h.2.2.2.2 v hv)⟩
end Go.Proofs.YtfnilamkapabkaaGreatDoor
namespace Go.Proofs.YtfnilamkapabkaaGreatDoor
open Go.ChangeShapes Go.WideShapes Go.ChangeAt Go.RowKit Go.Shelf
set_option linter.unusedVariables false
structure RunS where
 vals:Nat→Int
 cells:Nat→Int
 reads:List Int
 told:List Int
 path:List Int
 fuel:Nat
def updN (f:Nat→Int)(k:Nat)(x:Int):Nat→Int:=fun i=>if i=k then x else f i
def RunS.setV (s:RunS)(d x:Int):RunS := { s with vals:=updN s.vals d.toNat x }
def RunS.val (s:RunS)(v:Int):Int:=s.vals v.toNat
def cellOk (a:Int):Prop:=0≤a∧a≤7
instance (a : Int):Decidable (cellOk a):=inferInstanceAs (Decidable (0≤a∧a≤7))
def insDo (W:Int→Int→Int→Int)(x:InsD)(s:RunS):Int × RunS :=
 if 1≤x.op∧x.op≤10 then(0,s.setV x.d (W x.op (s.val x.a) (s.val x.b)))
 else if x.op=20 then(0,s.setV x.d x.n)
 else if x.op=21 then(if cellOk (s.val x.a) then(0,s.setV x.d (s.cells (s.val x.a).toNat)) else(2,s))
 else if x.op=22 then(if cellOk (s.val x.a) then(0,{ s with cells:=updN s.cells (s.val x.a).toNat (s.val x.b) }) else(2,s))
 else if x.op=23 then(0,{ s with told:=s.told ++ [s.val x.a] })
 else if x.op=24 then(0,{ s.setV x.d (s.reads.headD 0) with reads:=s.reads.tail })
 else if x.op=25 then(0,s.setV x.d (s.val x.a))
 else(0,s)
def armsDo (fr:Int)(before:Nat→Int)(d:Int)(l:List ArmD)(v:Nat→Int):Nat→Int :=
 l.foldl (fun v a=>if a.fr=fr then updN v d.toNat (before a.v.toNat) else v) v
def phisDo (fr:Int)(before:Nat→Int)(ps:List PhiD)(v:Nat→Int):Nat→Int :=
 ps.foldl (fun v p=>armsDo fr before p.d p.arms v) v
def placesDo (W:Int→Int→Int→Int):List InsD→RunS→Int × RunS
 | [],s=>(0,s)
 | x :: xs,s=>if s.fuel=0 then(1,s) else
  let r:=insDo W x { s with fuel:=s.fuel-1 }
  if r.1=0 then placesDo W xs r.2 else r
def enterDo (b:BlockD)(at_:Nat)(fr:Int)(s:RunS):RunS := { s with vals:=phisDo fr s.vals b.phis s.vals,path:=s.path ++ [(at_:Int)] }
def nextDo (t:TermD)(s:RunS):Int:=if t.k=2∧s.val t.a=0 then t.e else t.t
def tellN (W:Int→Int→Int→Int)(F:FnD):Nat→Nat→Int→RunS→Int × Int × RunS
 | 0,_,_,s=>(1,0,s)
 | k+1,at_,fr,s=>match F.blocks[at_]? with
  | none=>(1,0,s)
  | some b=>
   let r:=placesDo W b.list (enterDo b at_ fr s)
   if r.1≠0 then(r.1,0,r.2)
   else if r.2.fuel=0 then(1,0,r.2)
   else if b.term.k=3 then(0,r.2.val b.term.a,{ r.2 with fuel:=r.2.fuel-1 })
   else tellN W F k (nextDo b.term r.2).toNat at_ { r.2 with fuel:=r.2.fuel-1 }
def startDo (reads:List Int)(fuel:Int):RunS:=⟨fun _=>0,fun _=>0,reads,[],[],(min fuel 5000).toNat⟩
def runDo (W:Int→Int→Int→Int)(F:FnD)(reads:List Int)(fuel:Int):Int × Int × RunS:=tellN W F 5001 0 (-1) (startDo reads fuel)
theorem insDo_fuel (W:Int→Int→Int→Int)(x:InsD)(s:RunS):(insDo W x s).2.fuel=s.fuel:=by
 unfold insDo
 repeat' split
 all_goals rfl
theorem placesDo_cons (W:Int→Int→Int→Int)(x:InsD)(xs:List InsD)(s:RunS):placesDo W (x :: xs) s=if s.fuel=0 then(1,s) else(if (insDo W x { s with fuel:=s.fuel-1 }).1=0 then placesDo W xs (insDo W x { s with fuel:=s.fuel-1 }).2 else insDo W x { s with fuel:=s.fuel-1 }):=rfl
end Go.Proofs.YtfnilamkapabkaaGreatDoor
namespace Go.Proofs.YtfnilamkapabkaaGreatDoor
open Go.ChangeShapes Go.WideShapes Go.ChangeAt Go.RowKit Go.Shelf
set_option linter.unusedVariables false
theorem cell_of_heap {w w':World}{b:Nat}(h:w'.heap[b]? = w.heap[b]?)(o:Nat):w'.cell? ⟨b,o,none⟩=w.cell? ⟨b,o,none⟩:=by simp[World.cell?,h]
theorem frozen_of_cells {w:World}{b:Nat}{t:TypeId}(h:∃c,w.heap[b]? = some (.cells c t (0,0)))(o:Nat):w.frozen? ⟨b,o,none⟩=false:=by
 obtain⟨c,h⟩:=h
 simp[World.frozen?,h]
theorem OwnInts.len {w:World}{lo g n cap:Nat}{l:List Int}(h:OwnInts w lo (.slice (some ⟨g,0,none⟩) n cap) l):n=l.length:=by
 rcases h.2 with ⟨h0,_⟩ | ⟨g',cap',cur,h0,_,hg,_⟩
 ·cases h0
 ·cases h0
  rfl
end Go.Proofs.YtfnilamkapabkaaGreatDoor
