/- The look in memory; fail, and twice: whether a value is made twice. The look, its steps: copies, and the entry. The look, its steps: blocks that are not reached. The look, its steps: whether a value was made ahead. -/
import Derived.Test.YtfnilamkapabkaaGreatDoorKMake
import Derived.Test.YtfnilamkapabkaaGreatDoorKTab
import Derived.Test.YtfnilamkapabkaaGreatDoorKCkS
import Derived.Test.YtfnilamkapabkaaGreatDoorKGraph
import Derived.Test.YtfnilamkapabkaaGreatDoorKRound
import Derived.Deep.RegionHeld3
namespace Go.Proofs.YtfnilamkapabkaaGreatDoor
open Go.ChangeShapes Go.WideShapes Go.ChangeAt Go.RowKit Go.Shelf
set_option linter.unusedVariables false
attribute [local go_sem] Oper.semAt_some
def lookC (bv:Value)(vals:Int)(T:Tab)(mb:Nat):List Value := [bv,.int .i64 vals] ++ (tabC T ++ [.map (some mb)])
def LookAt (w:World)(LB:Nat)(bv:Value)(vals:Int)(T:Tab)(mb:Nat):Prop:=w.heap[LB]? = some (.cells (lookC bv vals T mb).toArray 172 (0,0))
section
variable {w w':World} {LB:Nat} {bv:Value} {vals:Int} {T:Tab} {mb:Nat}
theorem LookAt.lt (h:LookAt w LB bv vals T mb):LB<w.heap.size:=(Array.getElem?_eq_some_iff.1 h).1
theorem LookAt.keep (h:LookAt w LB bv vals T mb)(hb:Below w.heap.size w w'):LookAt w' LB bv vals T mb:=(hb.block _ h.lt).trans h
theorem LookAt.at (h:LookAt w LB bv vals T mb){o:Nat}{v:Value}(hv:(lookC bv vals T mb)[o]? = some v):w.cell? ⟨LB,o,none⟩=some v:=by
 simp only[World.cell?]
 rw[show w.heap[LB]? = _ from h]
 simpa using hv
theorem lookC_map : (lookC bv vals T mb)[258]? = some (.map (some mb)):=by
 unfold lookC
 rw[List.getElem?_append_right (by simp),List.getElem?_append_right (by simp[tabC_len])]
 simp[tabC_len]
theorem LookAt.c0 (h:LookAt w LB bv vals T mb):w.cell? ⟨LB,0,none⟩=some bv:=h.at rfl
theorem LookAt.c1 (h:LookAt w LB bv vals T mb):w.cell? ⟨LB,1,none⟩=some (.int .i64 vals):=h.at rfl
theorem LookAt.c258 (h:LookAt w LB bv vals T mb):w.cell? ⟨LB,258,none⟩=some (.map (some mb)):=h.at lookC_map
end
def thrown (code b p:Int):List PanicEntry := [{ v := .iface 102 (.agg #[.int .i64 code,.int .i64 b,.int .i64 p]),recovered:=false }]
theorem fail_any (lv:Value)(code b p:Int)(w:World) :
  Calls Tryz.prog 160 #[lv,.int .i64 code,.agg #[.int .i64 b,.int .i64 p]] w fun e w'=>e = .panicked (thrown code b p)∧Below w.heap.size w w':=by
 go_enter Tryz.func160,Tryz.ntmps160
 go_wp2
 exact⟨rfl,rfl,Bel.alloc _ _⟩
structure FrM (mb:Nat)(w w':World):Prop where
 os:w'.os=w.os
 tape:w'.tape=w.tape
 output:w'.output=w.output
 size:w.heap.size≤w'.heap.size
 block:∀k,k<w.heap.size→k≠mb→w'.heap[k]? = w.heap[k]?
theorem FrM.refl (mb:Nat)(w:World):FrM mb w w:=⟨rfl,rfl,rfl,Nat.le_refl _,fun _ _ _=>rfl⟩
theorem FrM.trans {mb:Nat}{a b c:World}(h:FrM mb a b)(k:FrM mb b c):FrM mb a c :=
 ⟨k.os.trans h.os,k.tape.trans h.tape,k.output.trans h.output,Nat.le_trans h.size k.size,fun i hi hn=>(k.block i (Nat.lt_of_lt_of_le hi h.size) hn).trans (h.block i hi hn)⟩
theorem FrM.ofBelow {mb:Nat}{a b:World}(h:Below a.heap.size a b):FrM mb a b:=⟨h.os,h.tape,h.output,h.size,fun k hk _=>h.block k hk⟩
theorem FrM.grown {mb:Nat}{a w w':World}{o:Option Nat}(h:FrM mb a w)(hg:w.grownBy w' o)(ho:∀j,o=some j→j=mb∨a.heap.size≤j):FrM mb a w' :=
 ⟨hg.os.trans h.os,hg.tape.trans h.tape,hg.output.trans h.output,Nat.le_trans h.size hg.size,fun k hk hp=>(hg.block k (Nat.lt_of_lt_of_le hk h.size) (fun e=>by rcases ho k e.symm with h1 | h1 <;> omega)).trans (h.block k hk hp)⟩
theorem FrM.look {mb:Nat}{w w':World}(h:FrM mb w w'){LB:Nat}{bv:Value}{vals:Int}{T:Tab}(hL:LookAt w LB bv vals T mb)(hne:LB≠mb):LookAt w' LB bv vals T mb:=(h.block LB hL.lt hne).trans hL
theorem FrM.fn {mb:Nat}{w w':World}(h:FrM mb w w')(hm:∃es ck,w.heap[mb]? = some (.map es ck)){v:Value}{F:FnD}(hF:FnAt w v F):FnAt w' v F:=by
 obtain⟨es,ck,hm⟩:=hm
 refine FnAtLo.keep hF (fun p u _ hc=>?_)
 have hlt:=World.block_lt_of_cell? w _ hc
 have hne:p.block≠mb:=fun e=>by
  unfold World.cell? at hc
  rw[e,hm] at hc
  cases hc
 rw[World.cell?_of_block (w:=w) (h.block p.block hlt hne)]
 exact hc
def TwiceEnds (F:FnD)(mb:Nat)(e:Ending)(w':World):Prop:=(MadeOnce F∧(∃v,e = .returned v)∧MadeMap w' mb (makesOf F))∨(¬MadeOnce F∧∃b p,e = .panicked (thrown 5 b p))
set_option maxRecDepth 100000 in
set_option maxHeartbeats 8000000 in
theorem twice_any (F:FnD)(ba:Option Addr)(n bcap:Nat)(vals:Int)(T:Tab)(LB mb:Nat)(w:World)(hF:FnAt w (.agg #[.slice ba n bcap,.int .i64 vals]) F)(hN:F.blocks.length=n)(hS:FnShape F)(hin:∀m∈makesOf F,(Lit.int .i64 m.1).wf=true)(hlen:(makesOf F).length≤1000)(hL:LookAt w LB (.slice ba n bcap) vals T mb)(hM:MadeMap w mb []) :
  Calls Tryz.prog 107 #[.pointer (some ⟨LB,0,none⟩)] w fun e w'=>TwiceEnds F mb e w'∧FrM mb w w':=by
 have HF:Hid (FnAt w (.agg #[.slice ba n bcap,.int .i64 vals]) F):=hF
 have HN:Hid (F.blocks.length=n):=hN
 have HS:Hid (FnShape F):=hS
 have HIN:Hid (∀m∈makesOf F,(Lit.int .i64 m.1).wf=true):=hin
 have HL:Hid (LookAt w LB (.slice ba n bcap) vals T mb):=hL
 have HM:Hid (MadeMap w mb []):=hM
 obtain⟨es0,ck0,hm0⟩:=hM.isMap
 have hne:LB≠mb:=fun e=>by
  subst e
  rw[show w.heap[LB]? = _ from hL] at hm0
  cases hm0
 have hmlt:mb<w.heap.size:=(Array.getElem?_eq_some_iff.1 hm0).1
 have hLlt:=hL.lt
 clear hF hN hS hin hL hM hm0
 refine(callsIn_wide (n:=5)).1 ?_
 refine callsIn_of_wpAt Tryz.func107 rfl ?_
 simp only[Tryz.ntmps107,List.size_toArray,List.length_cons,List.length_nil,Nat.reduceAdd,Nat.reduceSub,Array.replicate_succ,Array.replicate_zero,List.push_toArray,List.append_toArray,List.nil_append,List.cons_append]
 refine wpAt_seq_k (fun K hK=>?_)
 gi_wp2
 obtain⟨w1,hw1⟩:∃W,w.alloc (.cells #[.pointer (some ⟨LB,0,none⟩)] 169)=W:=⟨_,rfl⟩
 have hB1:Below w.heap.size w w1:=by rw[←hw1];exact Bel.alloc _ _
 have hx1:Boxed w1 w.heap.size 169 (.pointer (some ⟨LB,0,none⟩)):=by rw[←hw1];exact Boxed.new _ _ _
 have hs1:w1.heap.size=w.heap.size+1:=by rw[←hw1];simp
 rw[hw1]
 clear hw1
 have L1:Hid (LookAt w1 LB (.slice ba n bcap) vals T mb):=HL.out.keep hB1
 have cx:=hx1.cell
 have c0:=L1.out.c0
 have c1:=L1.out.c1
 refine wpAt_seq_k (fun K hK=>?_)
 gi_wp2_with fail
 refine⟨trivial,(callsIn_wide.2 (makings_any _ _ ba n bcap vals rfl)).mono ?_⟩
 rintro e w2 ⟨rfl,hw2⟩
 have hB2:Below w1.heap.size w1 w2:=by rw[hw2];exact Bel.alloc _ _
 have m0:w2.cell? ⟨w1.heap.size,0,none⟩=some (.slice ba n bcap):=by rw[hw2];simp[go_sem]
 have F2:Hid (FnAt w2 (.agg #[.slice ba n bcap,.int .i64 vals]) F):=(HF.out.later hB1).later hB2
 have B2:Hid (Below w.heap.size w w2):=Bel.after hB1 hB2
 have hx2:Boxed w2 w.heap.size 169 (.pointer (some ⟨LB,0,none⟩)):=(hB2.block _ (by omega)).trans hx1
 have hs2:w2.heap.size=w.heap.size+2:=by rw[hw2];simp;omega
 have M2:Hid (MadeMap w2 mb []):=HM.out.kept (B2.out.block _ hmlt)
 have L2:Hid (LookAt w2 LB (.slice ba n bcap) vals T mb):=HL.out.keep B2.out
 obtain⟨MK,hMK⟩:∃M,w1.heap.size=M:=⟨_,rfl⟩
 rw[hMK] at m0 ⊢
 clear hw2 hB2 hB1 hx1 hs1 cx c0 c1 hMK
 gi_wp2_with fail
 refine wpAt_block ?_
 refine wpAt_rangeFunc_box (α := {m:Made // (Lit.int .i64 m.1).wf=true}) Tryz.func107 (gf:=119) (lb := #[.pointer (some ⟨MK,0,none⟩)]) rfl (enters_of Tryz.func119 (by kernel_rfl) rfl)
  (encs:=fun m=>#[.int .i64 m.1.1,.agg #[.int .i64 m.1.2.1,.int .i64 m.1.2.2]]) (Kp:=KeepsCells) (S:=fun(ys:List {m:Made // (Lit.int .i64 m.1).wf=true})=>ys.map (fun m=>m.1)=makesOf F) (Sp:=fun(pre:List {m:Made // (Lit.int .i64 m.1).wf=true})=>List.IsPrefix (pre.map (fun(m:{m:Made // (Lit.int .i64 m.1).wf=true})=>(m.1:Made))) (makesOf F)) (N:=(makesOf F).length) (w0:=w2)
  (fun l J Jp W hW aJ hY h0=>making_seqP (fun m=>(Lit.int .i64 m.1).wf=true) 4 (by omega) l MK F ba n bcap vals HIN.out J Jp W aJ hY (F2.out.later hW) HN.out (Bel.keeps hW m0) h0) keepsC_t keepsC_b (Below.refl _ _) (fun _=>rfl)
  (fun pre W=>MadeMap W mb (pre.map (fun m=>m.1))∧((pre.map (fun m=>m.1)).map (fun m=>m.1)).Nodup∧Boxed W w.heap.size 169 (.pointer (some ⟨LB,0,none⟩))∧LookAt W LB (.slice ba n bcap) vals T mb∧FrM mb w W)
  (fun ch pre W=>(∃b p,ch=thrown 5 b p)∧¬((pre.map (fun m=>m.1)).map (fun m=>m.1)).Nodup∧FrM mb w W)
  (fun pre y a₁ W=>∃bx,a₁ = { tmps := #[.pointer (some ⟨LB,0,none⟩),.pointer (some ⟨w.heap.size,0,none⟩),.int .i64 y.1.1,.pointer (some ⟨bx,0,none⟩),undef,undef,.pointer (some ⟨LB,0,none⟩),.pointer (some ⟨LB,0,none⟩),.pointer (some ⟨LB,0,none⟩),.agg #[.slice ba n bcap,.int .i64 vals],.func (.func 119) #[] #[.pointer (some ⟨MK,0,none⟩)],.int .i64 y.1.1,.agg #[.int .i64 y.1.2.1,.int .i64 y.1.2.2],undef,undef,undef,undef,undef,undef,undef,undef,undef,undef,undef,undef,undef,undef,undef,undef,undef,undef,undef],defers := [] }∧W.heap[bx]? = some (.cells #[.int .i64 y.1.2.1,.int .i64 y.1.2.2] 100 (0,0))∧MadeMap W mb (pre.map (fun m=>m.1))∧((pre.map (fun m=>m.1)).map (fun m=>m.1)).Nodup∧Boxed W w.heap.size 169 (.pointer (some ⟨LB,0,none⟩))∧LookAt W LB (.slice ba n bcap) vals T mb∧FrM mb w W)
  ?ownI ?ownA ⟨M2.out,List.nodup_nil,hx2,L2.out,FrM.ofBelow B2.out⟩ ?assign ?body ?done ?panic
 case ownI=>
  intro s A B row hs hg hr
  obtain⟨h1,h2,h3,h4,h5⟩:=hs
  obtain⟨es,ck,e⟩:=h1.isMap
  refine⟨h1.kept (hg.block mb (Array.getElem?_eq_some_iff.1 e).1 (fun e2=>by have:=(hr mb e2.symm).1;omega)),h2,boxed_own (β:=Unit) _ _ (fun _=>_) () A B row h3 hg (fun r e=>(hr r e).2),(hg.block LB h4.lt (fun e2=>by have:=(hr LB e2.symm).1;omega)).trans h4,h5.grown hg (fun j ej=>.inr (by have:=(hr j ej).1;omega))⟩
 case ownA=>
  intro pre y a₁ s A B row hs hg hr
  obtain⟨bx,h0,h00,h1,h2,h3,h4,h5⟩:=hs
  obtain⟨es,ck,e⟩:=h1.isMap
  refine⟨bx,h0,?_,h1.kept (hg.block mb (Array.getElem?_eq_some_iff.1 e).1 (fun e2=>by have:=(hr mb e2.symm).1;omega)),h2,boxed_own (β:=Unit) _ _ (fun _=>_) () A B row h3 hg (fun r e=>(hr r e).2),(hg.block LB h4.lt (fun e2=>by have:=(hr LB e2.symm).1;omega)).trans h4,h5.grown hg (fun j ej=>.inr (by have:=(hr j ej).1;omega))⟩
  refine(hg.block bx (Array.getElem?_eq_some_iff.1 h00).1 (fun e2=>?_)).trans h00
  obtain⟨o,ho,hc⟩:=(hr bx e2.symm).2
  rw[h00] at ho
  cases ho
  cases hc
 case assign=>
  intro l pre y W K hI hK
  obtain⟨h1,h2,h3,h4,h5⟩:=hI
  obtain⟨es,ck,e⟩:=h1.isMap
  have hml:=(Array.getElem?_eq_some_iff.1 e).1
  gi_wp2
  exact hK _ _ ⟨W.heap.size,rfl,World.alloc_heap_new _ _,h1.kept (Below.heap_alloc _ _ _ hml),h2,h3.alloc _,h4.keep (Bel.alloc _ _),h5.trans (FrM.ofBelow (Bel.alloc _ _))⟩ ⟨by simp,fun k o _ hk _=>(Below.heap_alloc _ _ _ (Array.getElem?_eq_some_iff.1 hk).1).trans hk⟩ (keepsC_below (Bel.alloc _ _))
 case body=>
  rintro l pre y a₁ W ⟨bx,rfl,hb,h1,h2,h3,h4,h5⟩ hlen2
  obtain⟨D,hown,hD,hAt⟩:=id h1
  have hkey:keyOf Tryz.prog 3 (.int .i64 y.1.1)=some (.int .i64 y.1.1):=Maps.keyOf_int_mk Tryz.underlying3 y.2
  have cx:=h3.cell
  have c258:=h4.c258
  have b0:W.cell? ⟨bx,0,none⟩=some (.int .i64 y.1.2.1):=by simp[World.cell?,hb]
  have b1:W.cell? ⟨bx,1,none⟩=some (.int .i64 y.1.2.2):=by simp[World.cell?,hb]
  have zs:∀w,(zeroValue 100).run Tryz.prog w = .ok (.agg #[.int .i64 0,.int .i64 0]) w:=fun w=>by kernel_rfl
  have hxl:w.heap.size<W.heap.size:=h3.lt
  have hLl:LB<W.heap.size:=h4.lt
  have hbl:bx<W.heap.size:=(Array.getElem?_eq_some_iff.1 hb).1
  have hlen9:(pre.map (fun m=>m.1)).length≤1000:=by rw[List.length_map];omega
  have hmx:100000≤maxLen:=by decide
  have hmxl:(pre.map (fun m=>m.1)).length<maxLen:=by omega
  clear hmx
  have H1:Hid (MadeMap W mb (pre.map (fun m=>m.1))):=h1
  have H2:Hid (((pre.map (fun m=>m.1)).map (fun m=>m.1)).Nodup):=h2
  have H3:Hid (Boxed W w.heap.size 169 (.pointer (some ⟨LB,0,none⟩))):=h3
  have H4:Hid (LookAt W LB (.slice ba n bcap) vals T mb):=h4
  have H5:Hid (FrM mb w W):=h5
  clear h1 h2 h3 h4 h5
  by_cases hmem:y.1.1∈(pre.map (fun m=>m.1)).map (fun m=>m.1)
  ·have hh:Maps.has D (.int .i64 y.1.1)=true:=by rw[hD];exact decide_eq_true hmem
   have HMEM:Hid (y.1.1∈(pre.map (fun m=>m.1)).map (fun m=>m.1)):=hmem
   clear hmem
   gi_wp2_with (gi_at_lookup;refine wpListIn_lookup_own_ok _ rfl _ _ 170 rfl 3 100 keyed_made Tryz.underlying170 spotElem (zs _) _ [] (spotElem_mk 0 0) mb _ D rfl hown _ _ rfl hkey ?_;intro v9 ps9 hv9;obtain⟨sa,sb,rfl,_⟩:=spotElem_inv hv9;rw[hh])
   refine⟨trivial,(CallsIn.inRound l (callsIn_wide.2 (fail_any _ 5 y.1.2.1 y.1.2.2 _))).mono ?_⟩
   rintro e W5 ⟨rfl,b5⟩
   have hbb:Below W.heap.size W W5:=Bel.after (Bel.alloc _ _) b5
   refine⟨rfl,⟨hbb.size,fun k o _ hk _=>(hbb.block k (Array.getElem?_eq_some_iff.1 hk).1).trans hk⟩,⟨_,_,rfl⟩,?_,H5.out.trans (FrM.ofBelow hbb)⟩
   rw[List.map_append,List.map_append]
   intro hn
   rw[List.nodup_append] at hn
   exact hn.2.2 _ HMEM.out y.1.1 (by simp) rfl
  ·have hh:Maps.has D (.int .i64 y.1.1)=false:=by rw[hD];exact decide_eq_false hmem
   have HMEM:Hid (¬y.1.1∈(pre.map (fun m=>m.1)).map (fun m=>m.1)):=hmem
   clear hmem
   gi_wp2_with (gi_at_lookup;refine wpListIn_lookup_own_ok _ rfl _ _ 170 rfl 3 100 keyed_made Tryz.underlying170 spotElem (zs _) _ [] (spotElem_mk 0 0) mb _ D rfl hown _ _ rfl hkey ?_;intro v9 ps9 hv9;obtain⟨sa,sb,rfl,_⟩:=spotElem_inv hv9;rw[hh])
   obtain⟨W3,hW3⟩:∃W3,W.alloc (.cells #[.int .i64 sa,.int .i64 sb] 100)=W3:=⟨_,rfl⟩
   have b3:Below W.heap.size W W3:=by rw[←hW3];exact Bel.alloc _ _
   have OWN3:Hid (W3.drew.ownsMap Tryz.prog 3 spotElem mb (pre.map (fun m=>m.1)).length D):=by
    obtain⟨es,ck,e1,e2⟩:=hown
    exact⟨es,ck,(b3.block _ (Array.getElem?_eq_some_iff.1 e1).1).trans e1,e2⟩
   have k0:=Bel.keeps b3 cx
   have k1:=Bel.keeps b3 c258
   have k2:=Bel.keeps b3 b0
   have k3:=Bel.keeps b3 b1
   rw[hW3]
   clear hW3
   have hSS:(fun w'=>w'.cell? ⟨w.heap.size,0,none⟩=some (.pointer (some ⟨LB,0,none⟩))∧w'.cell? ⟨LB,258,none⟩=some (.map (some mb))∧w'.cell? ⟨bx,0,none⟩=some (.int .i64 y.1.2.1)∧w'.cell? ⟨bx,1,none⟩=some (.int .i64 y.1.2.2)) W3.drew:=⟨k0,k1,k2,k3⟩
   dsimp only at hSS
   refine region_round 6 (fun w'=>w'.cell? ⟨w.heap.size,0,none⟩=some (.pointer (some ⟨LB,0,none⟩))∧w'.cell? ⟨LB,258,none⟩=some (.map (some mb))∧w'.cell? ⟨bx,0,none⟩=some (.int .i64 y.1.2.1)∧w'.cell? ⟨bx,1,none⟩=some (.int .i64 y.1.2.2)) (by kernel_rfl) (by kernel_rfl) ?_
   refine wpAnyM_take (i:=0) (oi:=⟨some 26,.load 169 (.tmp 1),169,"l05_check.go:152",#[],none⟩) (v := .pointer (some ⟨LB,0,none⟩)) rfl (by kernel_rfl) (by kernel_rfl) (by kernel_rfl) (by kernel_rfl) (fun _ _ _ h=>h) (Or.inl ⟨by rfl,fun W hW=>by obtain⟨q0,q1,q2,q3⟩:=hW;go_simp⟩) hSS ?_
   simp only[Act.put,List.setIfInBounds_toArray,List.set_cons_zero,List.set_cons_succ]
   refine wpAnyM_take (i:=1) (oi:=⟨some 27,.nilCheck (.tmp 26),0,"l05_check.go:152",#[⟨0,.data⟩],none⟩) (v := .pointer (some ⟨LB,0,none⟩)) rfl (by kernel_rfl) (by kernel_rfl) (by kernel_rfl) (by kernel_rfl) (fun _ _ _ h=>h) (Or.inl ⟨by rfl,fun W hW=>by obtain⟨q0,q1,q2,q3⟩:=hW;go_simp⟩) hSS ?_
   simp only[Act.put,List.setIfInBounds_toArray,List.set_cons_zero,List.set_cons_succ]
   refine wpAnyM_take (i:=2) (oi:=⟨some 28,.fieldAddr 172 (.tmp 27) 2,0,"l05_check.go:152",#[⟨1,.data⟩],none⟩) (v := .pointer (some ⟨LB,258,none⟩)) rfl (by kernel_rfl) (by kernel_rfl) (by kernel_rfl) (by kernel_rfl) (fun _ _ _ h=>h) (Or.inl ⟨by rfl,fun W hW=>by obtain⟨q0,q1,q2,q3⟩:=hW;go_simp⟩) hSS ?_
   simp only[Act.put,List.setIfInBounds_toArray,List.set_cons_zero,List.set_cons_succ]
   refine wpAnyM_take (i:=3) (oi:=⟨some 29,.load 170 (.tmp 28),170,"l05_check.go:152",#[⟨2,.data⟩],none⟩) (v := .map (some mb)) rfl (by kernel_rfl) (by kernel_rfl) (by kernel_rfl) (by kernel_rfl) (fun _ _ _ h=>h) (Or.inl ⟨by rfl,fun W hW=>by obtain⟨q0,q1,q2,q3⟩:=hW;go_simp⟩) hSS ?_
   simp only[Act.put,List.setIfInBounds_toArray,List.set_cons_zero,List.set_cons_succ]
   refine wpAnyM_take (i:=4) (oi:=⟨some 30,.move (.tmp 2),3,"l05_check.go:152",#[],none⟩) (v := .int .i64 y.1.1) rfl (by kernel_rfl) (by kernel_rfl) (by kernel_rfl) (by kernel_rfl) (fun _ _ _ h=>h) (Or.inl ⟨by rfl,fun W hW=>by obtain⟨q0,q1,q2,q3⟩:=hW;go_simp⟩) hSS ?_
   simp only[Act.put,List.setIfInBounds_toArray,List.set_cons_zero,List.set_cons_succ]
   refine wpAnyM_take (i:=5) (oi:=⟨some 31,.load 100 (.tmp 3),100,"l05_check.go:152",#[],none⟩) (v := .agg #[.int .i64 y.1.2.1,.int .i64 y.1.2.2]) rfl (by kernel_rfl) (by kernel_rfl) (by kernel_rfl) (by kernel_rfl) (fun _ _ _ h=>h) (Or.inl ⟨by rfl,fun W hW=>by obtain⟨q0,q1,q2,q3⟩:=hW;go_simp⟩) hSS ?_
   simp only[Act.put,List.setIfInBounds_toArray,List.set_cons_zero,List.set_cons_succ]
   refine wpAnyM_one (i:=6) (o:=⟨none,.mapUpdate 170 (.tmp 29) (.tmp 30) (.tmp 31),0,"l05_check.go:152",#[⟨3,.data⟩,⟨4,.data⟩,⟨5,.data⟩,⟨0,.phase⟩,⟨1,.phase⟩,⟨2,.phase⟩,⟨3,.phase⟩,⟨4,.phase⟩,⟨5,.phase⟩],none⟩) rfl rfl (by kernel_rfl) ?_
   obtain⟨W4,hrun,hown4,hg4⟩:=OWN3.out.update keyed_made Tryz.underlying170 hmxl hkey (spotElem_mk y.1.2.1 y.1.2.2)
   unfold Oper.wp
   simp[execOp,Act.eval,hrun,Result.andThen]
   refine wpAnyM_done (by kernel_rfl) ?_ _
   obtain⟨es9,ck9,e9⟩:=H1.out.isMap
   have hblk:∀k,k<W.heap.size→k≠mb→W4.heap[k]? = W.heap[k]?:=fun k hk hkm=>(hg4.block k (Nat.lt_of_lt_of_le hk b3.size) (by simpa using hkm)).trans (b3.block k hk)
   have hsz:W.heap.size≤W4.heap.size:=Nat.le_trans b3.size hg4.size
   have hmp:MadeMap W4 mb ((pre.map (fun m=>m.1)) ++ [y.1]):=madeMap_put hown.isMap hD hAt y.1 hown4
   have hmw:w.heap.size≠mb:=by omega
   refine⟨⟨hsz,fun k o hkB hk ho=>(hblk k (Array.getElem?_eq_some_iff.1 hk).1 (by omega)).trans hk⟩,fun k o hk ho=>(hblk k (Array.getElem?_eq_some_iff.1 hk).1 (fun e=>?_)).trans hk,?_,?_,(hblk _ hxl hmw).trans H3.out,(hblk _ hLl hne).trans H4.out,?_⟩
   ·subst e
    rw[e9] at hk
    cases hk
    cases ho
   ·rw[List.map_append]
    exact hmp
   ·rw[List.map_append,List.map_append,List.nodup_append]
    refine⟨H2.out,by simp,fun a ha b hb e=>?_⟩
    simp at hb
    subst hb
    subst e
    exact HMEM.out ha
   ·exact⟨hg4.os.trans (b3.os.trans H5.out.os),hg4.tape.trans (b3.tape.trans H5.out.tape),hg4.output.trans (b3.output.trans H5.out.output),Nat.le_trans H5.out.size hsz,fun k hk hkm=>(hblk k (Nat.lt_of_lt_of_le hk H5.out.size) hkm).trans (H5.out.block k hk hkm)⟩
 case done=>
  rintro Dd ys W hD hS ⟨h1,h2,h3,h4,h5⟩ hK
  rw[hS] at h1 h2
  have hg:=grownBy_putObj' W Dd (.deferred none)
  obtain⟨es,ck,e⟩:=h1.isMap
  refine⟨by simp,.inl ⟨_,_,rfl,run_takeDeferred hK,?_⟩⟩
  refine⟨.tuple #[],?_,.inl ⟨h2,⟨_,rfl⟩,h1.kept ?_⟩,h5.grown hg (fun j ej=>.inr (by cases ej;omega))⟩
  ·simp[results,Tryz.results107]
  ·exact hg.block mb (Array.getElem?_eq_some_iff.1 e).1 (fun e2=>by cases e2;omega)
 case panic=>
  rintro Dd ch pre W hD hSp ⟨⟨b,p,rfl⟩,hnd,h5⟩ hK
  have hg:=grownBy_putObj' W Dd (.deferred none)
  refine⟨by simp,.inl ⟨_,_,rfl,run_takeDeferred hK,?_⟩⟩
  refine⟨.inr ⟨fun hn=>hnd ?_,b,p,rfl⟩,h5.grown hg (fun j ej=>.inr (by cases ej;omega))⟩
  obtain⟨t,ht⟩:=hSp
  have hn2:((makesOf F).map (fun m=>m.1)).Nodup:=hn
  rw[←ht,List.map_append,List.nodup_append] at hn2
  exact hn2.1
end Go.Proofs.YtfnilamkapabkaaGreatDoor
namespace Go.Proofs.YtfnilamkapabkaaGreatDoor
open Go.ChangeShapes Go.WideShapes Go.ChangeAt Go.RowKit Go.Shelf
set_option linter.unusedVariables false
def StepEnds (bad:Prop)(code:Int)(w:World)(e:Ending)(w':World):Prop:=((¬bad∧∃v,e = .returned v)∨(bad∧∃b p,e = .panicked (thrown code b p)))∧Below w.heap.size w w'
set_option maxRecDepth 100000 in
set_option maxHeartbeats 8000000 in
theorem copies_any (F:FnD)(ba:Option Addr)(n bcap:Nat)(vals:Int)(T:Tab)(LB mb:Nat)(w:World)(hF:FnAt w (.agg #[.slice ba n bcap,.int .i64 vals]) F)(hN:F.blocks.length=n)(hS:FnShape F)(hL:LookAt w LB (.slice ba n bcap) vals T mb) :
  Calls Tryz.prog 103 #[.pointer (some ⟨LB,0,none⟩)] w fun e w'=>StepEnds (CopyIn F) 1 w e w':=by
 have HF:Hid (FnAt w (.agg #[.slice ba n bcap,.int .i64 vals]) F):=hF
 have HN:Hid (F.blocks.length=n):=hN
 have HS:Hid (FnShape F):=hS
 have c0:=hL.c0
 have hn16:n≤16:=by have:=hS.2.1;omega
 clear hF hS hL hN
 go_enter Tryz.func103,Tryz.ntmps103
 go_wp2_with fail
 go_loopw [12] (fun i wr=>∃k:Nat,k≤n∧i = .int .i64 (k:Int)∧Below w.heap.size w wr∧∀(b:Nat) (x:BlockD) (j:Nat) (y:InsD),b<k→F.blocks[b]? = some x→x.list[j]? = some y→y.op≠25) (fun i _=>n-(intOf i).toNat)
 case atStart=>exact⟨0,Nat.zero_le _,rfl,Below.refl _ _,fun b x j y hb=>absurd hb (by omega)⟩
 case round=>
  obtain⟨wq,hwq⟩:∃x,x=wr:=⟨_,rfl⟩
  subst hwq
  obtain⟨k,hk,rfl,hB,hno⟩:=hrel
  have HB:Hid (Below w.heap.size w wq):=hB
  have HNO:Hid (∀(b:Nat) (x:BlockD) (j:Nat) (y:InsD),b<k→F.blocks[b]? = some x→x.list[j]? = some y→y.op≠25):=hno
  clear hno hB
  by_cases hlt:(k:Int)<(n:Int)
  ·have hkn:k<n:=by omega
   obtain⟨x,hx⟩:∃x,F.blocks[k]? = some x:=⟨_,List.getElem?_eq_getElem (by have:=HN.out;omega)⟩
   have HX:Hid (F.blocks[k]? = some x):=hx
   obtain⟨b,off,rfl,hat⟩:=(HF.out.later HB.out).blockC HN.out hkn hx
   obtain⟨pv,lv,b0,b1,b2,b3,b4,b5,hps,hls⟩:=hat
   have HLS:Hid (ListAt 0 5 InsAt wq lv x.list):=hls
   obtain⟨la,lcap,rfl,hlm,_⟩:=hls
   obtain⟨nl,HNL⟩:∃n,Hid (x.list.length=n):=⟨_,rfl⟩
   rw[HNL.out] at b1 hlm HLS
   have hnl:nl≤24:=by have:=(HS.out.2.2.2.2 k x hx).2.1;have:=HNL.out;omega
   obtain⟨pa,pcap,rfl,hpm,_⟩:=hps
   clear hx
   go_wp2_with fail
   obtain⟨w3,hw3⟩:∃W,wq.alloc (.cells #[.slice pa x.phis.length pcap,.slice la nl lcap,.int .i64 x.term.k,.int .i64 x.term.a,.int .i64 x.term.t,.int .i64 x.term.e] 44)=W:=⟨_,rfl⟩
   have B3:Hid (Below wq.heap.size wq w3):=by show Below _ _ _;rw[←hw3];exact Bel.alloc _ _
   rw[hw3]
   clear hw3 b0 b1 b2 b3 b4 b5
   go_loopw [20] (fun i wr=>∃j:Nat,j≤nl∧i = .int .i64 (j:Int)∧Below w3.heap.size w3 wr∧∀(i:Nat) (y:InsD),i<j→x.list[i]? = some y→y.op≠25) (fun i _=>nl-(intOf i).toNat)
   case atStart=>exact⟨0,Nat.zero_le _,rfl,Below.refl _ _,fun i y hi=>absurd hi (by omega)⟩
   case round=>
    obtain⟨ws,hwq⟩:∃x,x=wr:=⟨_,rfl⟩
    subst hwq
    obtain⟨j,hj,rfl,hB,hno⟩:=hrel
    have HBS:Hid (Below w3.heap.size w3 ws):=hB
    have BQS:Hid (Below wq.heap.size wq ws):=Bel.after B3.out hB
    have HNO2:Hid (∀(i:Nat) (y:InsD),i<j→x.list[i]? = some y→y.op≠25):=hno
    clear hno hB
    by_cases hltj:(j:Int)<(nl:Int)
    ·obtain⟨y,hy⟩:∃y,x.list[j]? = some y:=⟨_,List.getElem?_eq_getElem (by have:=HNL.out;omega)⟩
     obtain⟨lb,loff,rfl,q0,q1,q2,q3,q4⟩:=listAt_at (HLS.out.keep (fun b o z hb h=>h.keep (Keeps.of_below BQS.out 0) hb)) hy
     have HY:Hid (x.list[j]? = some y):=hy
     obtain⟨op,HOP⟩:∃q,Hid (y.op=q):=⟨_,rfl⟩
     rw[HOP.out] at q0
     clear hy
     by_cases h25:op=25
     ·subst h25
      go_wp2_with fail
      refine(fail_any _ _ _ _ _).mono ?_
      rintro e w5 ⟨rfl,b5⟩
      refine⟨rfl,.inr ⟨⟨k,x,j,y,HX.out,HY.out,HOP.out⟩,_,_,rfl⟩,Bel.after (Bel.after HB.out BQS.out) (Bel.after (Bel.alloc _ _) b5)⟩
     ·have h25':(op == 25)=false:=by simp[h25]
      go_wp2_with fail
      go_roundw
      case rel=>
       refine⟨j+1,by omega,by go_num,Bel.after HBS.out (Bel.alloc _ _),fun i z hi hz=>?_⟩
       by_cases e:i=j
       ·subst e
        have e2:=HY.out.symm.trans hz
        cases e2
        rw[HOP.out]
        exact h25
       ·exact HNO2.out i z (by omega) hz
      case measure=>simp[intOf];omega
    ·go_wp2_with fail
     go_roundw
     case rel=>
      refine⟨k+1,by omega,by go_num,Bel.after HB.out BQS.out,fun b2 x2 j2 y2 hb hx2 hy2=>?_⟩
      by_cases e:b2=k
      ·subst e
       have e2:=HX.out.symm.trans hx2
       cases e2
       exact HNO2.out j2 y2 (by have:=(List.getElem?_eq_some_iff.1 hy2).1;have:=HNL.out;omega) hy2
      ·exact HNO.out b2 x2 j2 y2 (by omega) hx2 hy2
     case measure=>simp[intOf];omega
  ·go_wp2_with fail
   refine⟨rfl,_,results_none rfl _ _ _,.inl ⟨?_,_,rfl⟩,HB.out⟩
   rintro⟨b,x,i,y,h1,h2,h3⟩
   exact absurd h3 (HNO.out b x i y (by have:=(List.getElem?_eq_some_iff.1 h1).1;have:=HN.out;omega) h1 h2)
set_option maxRecDepth 100000 in
set_option maxHeartbeats 8000000 in
theorem entry_any (F:FnD)(ba:Option Addr)(n bcap:Nat)(vals:Int)(T:Tab)(LB mb:Nat)(w:World)(hF:FnAt w (.agg #[.slice ba n bcap,.int .i64 vals]) F)(hN:F.blocks.length=n)(hS:FnShape F)(hL:LookAt w LB (.slice ba n bcap) vals T mb) :
  Calls Tryz.prog 105 #[.pointer (some ⟨LB,0,none⟩)] w fun e w'=>StepEnds (EntryBad F) 3 w e w':=by
 have HF:Hid (FnAt w (.agg #[.slice ba n bcap,.int .i64 vals]) F):=hF
 have HN:Hid (F.blocks.length=n):=hN
 have HS:Hid (FnShape F):=hS
 have c0:=hL.c0
 have c1:=hL.c1
 have hn1:0<n:=by have:=hS.1;omega
 have h0n:(0:Int)<(n:Int):=by omega
 obtain⟨x,hx⟩:∃x,F.blocks[0]? = some x:=⟨_,List.getElem?_eq_getElem (by omega)⟩
 have HX:Hid (F.blocks[0]? = some x):=hx
 obtain⟨b,off,rfl,hat⟩:=hF.blockC hN hn1 hx
 obtain⟨pv,lv,b0,_,_,_,_,_,hps,_⟩:=hat
 obtain⟨np,HNP⟩:∃q,Hid (x.phis.length=q):=⟨_,rfl⟩
 obtain⟨pa,pcap,rfl,hpm,_⟩:=hps
 rw[HNP.out] at b0 hpm
 simp only[Nat.zero_mul,Nat.add_zero] at b0
 clear hF hS hL hN hx
 go_enter Tryz.func105,Tryz.ntmps105
 by_cases hp:(0:Int)<(np:Int)
 ·go_wp2_with fail
  refine(fail_any _ _ _ _ _).mono ?_
  rintro e w5 ⟨rfl,b5⟩
  exact⟨rfl,.inr ⟨.inl ⟨x,HX.out,by have:=HNP.out;omega⟩,_,_,rfl⟩,b5⟩
 ·go_wp2_with fail
  refine(impl_preds _ F 0 _ HF.out).mono ?_
  rintro e w2 ⟨qv,rfl,hq,b2⟩
  obtain⟨ql,HQL⟩:∃q,Hid ((predsOf F 0).length=q):=⟨_,rfl⟩
  have B2:Hid (Below w.heap.size w w2):=b2
  obtain⟨qa,qcap,rfl,hql,_⟩:=hq.at
  have HE:Hid (predsOf F 0=predsN F 0):=predsOf_yes HS.out (Int.le_refl _) (by have:=HN.out;omega)
  rw[HQL.out] at hql
  rw[HQL.out]
  clear hq b2 b0 c0 c1
  by_cases hq0:(0:Int)<(ql:Int)
  ·go_wp2_with fail
   refine(fail_any _ _ _ _ _).mono ?_
   rintro e w5 ⟨rfl,b5⟩
   exact⟨rfl,.inr ⟨.inr (by rw[←HE.out,HQL.out];omega),_,_,rfl⟩,Bel.after B2.out b5⟩
  ·go_wp2_with fail
   refine⟨rfl,_,results_none rfl _ _ _,.inl ⟨?_,_,rfl⟩,B2.out⟩
   rintro(⟨y,hy,hy2⟩ | h)
   ·have e:=HX.out.symm.trans hy
    cases e
    have:=HNP.out
    omega
   ·rw[←HE.out,HQL.out] at h
    omega
end Go.Proofs.YtfnilamkapabkaaGreatDoor
namespace Go.Proofs.YtfnilamkapabkaaGreatDoor
open Go.ChangeShapes Go.WideShapes Go.ChangeAt Go.RowKit Go.Shelf
set_option linter.unusedVariables false
theorem LookAt.row {w:World}{LB:Nat}{bv:Value}{vals:Int}{T:Tab}{mb:Nat}(h:LookAt w LB bv vals T mb){b:Nat}(hb:b<16):w.rangeAt LB (2+b*16) (rowC (T b)):=fun j v hv=>by
 have hj:j<16:=by have:=(List.getElem?_eq_some_iff.1 hv).1;rw[rowC_len] at this;exact this
 rw[rowC_at _ hj] at hv
 cases hv
 refine h.at ?_
 unfold lookC
 rw[List.getElem?_append_right (by simp;omega),List.getElem?_append_left (by simp[tabC_len];omega)]
 rw[show 2+b*16+j - [bv,Value.int IntKind.i64 vals].length=b*16+j by simp;omega,tabC_at T (k:=b*16+j) (by omega)]
 congr 3 <;> omega
theorem run_index_doms {LB sn:Nat}(hs:sn<16)(W:World):(Instr.indexAt 95 (.pointer (some ⟨LB,2,none⟩)) (.int .i64 (sn:Int))).run Tryz.prog W = .ok (.pointer (some ⟨LB,2+sn*16,none⟩)) W:=by
 simp[Instr.indexAt,asIntOf,Sem.run_bind,run_underlying Tryz.underlying95,Instr.sureAddr,Tryz.sizeOf93,hs,Addr.add]
theorem LookAt.one {w:World}{LB:Nat}{bv:Value}{vals:Int}{T:Tab}{mb:Nat}(h:LookAt w LB bv vals T mb){b:Nat}(hb:b<16){j:Nat}(hj:j<16):w.cell? ⟨LB,2+b*16+j,none⟩=some (.bool (T b j)):=h.row hb j _ (rowC_at _ hj)
theorem LookAt.cells16 {w:World}{LB:Nat}{bv:Value}{vals:Int}{T:Tab}{mb:Nat}(h:LookAt w LB bv vals T mb){b:Nat}(hb:b<16):w.cell? ⟨LB,2+b*16,none⟩=some (.bool (T b 0))∧w.cell? ⟨LB,2+b*16+1,none⟩=some (.bool (T b 1))∧w.cell? ⟨LB,2+b*16+2,none⟩=some (.bool (T b 2))∧w.cell? ⟨LB,2+b*16+3,none⟩=some (.bool (T b 3))∧w.cell? ⟨LB,2+b*16+4,none⟩=some (.bool (T b 4))∧w.cell? ⟨LB,2+b*16+5,none⟩=some (.bool (T b 5))∧w.cell? ⟨LB,2+b*16+6,none⟩=some (.bool (T b 6))∧w.cell? ⟨LB,2+b*16+7,none⟩=some (.bool (T b 7))∧w.cell? ⟨LB,2+b*16+8,none⟩=some (.bool (T b 8))∧w.cell? ⟨LB,2+b*16+9,none⟩=some (.bool (T b 9))∧w.cell? ⟨LB,2+b*16+10,none⟩=some (.bool (T b 10))∧w.cell? ⟨LB,2+b*16+11,none⟩=some (.bool (T b 11))∧w.cell? ⟨LB,2+b*16+12,none⟩=some (.bool (T b 12))∧w.cell? ⟨LB,2+b*16+13,none⟩=some (.bool (T b 13))∧w.cell? ⟨LB,2+b*16+14,none⟩=some (.bool (T b 14))∧w.cell? ⟨LB,2+b*16+15,none⟩=some (.bool (T b 15)):=⟨h.one hb (j:=0) (by omega),h.one hb (j:=1) (by omega),h.one hb (j:=2) (by omega),h.one hb (j:=3) (by omega),h.one hb (j:=4) (by omega),h.one hb (j:=5) (by omega),h.one hb (j:=6) (by omega),h.one hb (j:=7) (by omega),h.one hb (j:=8) (by omega),h.one hb (j:=9) (by omega),h.one hb (j:=10) (by omega),h.one hb (j:=11) (by omega),h.one hb (j:=12) (by omega),h.one hb (j:=13) (by omega),h.one hb (j:=14) (by omega),h.one hb (j:=15) (by omega)⟩
theorem has16_any (f:Nat→Bool)(bn:Nat)(hb:bn<16)(w:World) :
  Calls Tryz.prog 65 #[.agg #[.bool (f 0),.bool (f 1),.bool (f 2),.bool (f 3),.bool (f 4),.bool (f 5),.bool (f 6),.bool (f 7),.bool (f 8),.bool (f 9),.bool (f 10),.bool (f 11),.bool (f 12),.bool (f 13),.bool (f 14),.bool (f 15)],.int .i64 bn] w fun e w'=>e = .returned (.bool (f bn))∧Below w.heap.size w w':=setHas_any f bn hb w
set_option maxRecDepth 100000 in
set_option maxHeartbeats 8000000 in
theorem dead_any (F:FnD)(ba:Option Addr)(n bcap:Nat)(vals:Int)(T:Tab)(LB mb:Nat)(w:World)(hN:F.blocks.length=n)(hS:FnShape F)(hT:∀b,b<16→(T b b=true↔b∈(wayOf F).1))(hL:LookAt w LB (.slice ba n bcap) vals T mb) :
  Calls Tryz.prog 104 #[.pointer (some ⟨LB,0,none⟩)] w fun e w'=>StepEnds (¬AllReached F) 2 w e w':=by
 have HN:Hid (F.blocks.length=n):=hN
 have HS:Hid (FnShape F):=hS
 have HT:Hid (∀b,b<16→(T b b=true↔b∈(wayOf F).1)):=hT
 have HL:Hid (LookAt w LB (.slice ba n bcap) vals T mb):=hL
 have c0:=hL.c0
 have hn16:n≤16:=by have:=hS.2.1;omega
 clear hS hL hN hT
 go_enter Tryz.func104,Tryz.ntmps104
 go_wp2_with fail
 go_loopw [9] (fun i wr=>∃k:Nat,k≤n∧i = .int .i64 (k:Int)∧Below w.heap.size w wr∧∀b:Nat,b<k→b∈(wayOf F).1) (fun i _=>n-(intOf i).toNat)
 case atStart=>exact⟨0,Nat.zero_le _,rfl,Below.refl _ _,fun b hb=>absurd hb (by omega)⟩
 case round=>
  obtain⟨wq,hwq⟩:∃x,x=wr:=⟨_,rfl⟩
  subst hwq
  obtain⟨k,hk,rfl,hB,hno⟩:=hrel
  have HB:Hid (Below w.heap.size w wq):=hB
  have HNO:Hid (∀b:Nat,b<k→b∈(wayOf F).1):=hno
  clear hno hB
  by_cases hlt:(k:Int)<(n:Int)
  ·have hk16:k<16:=by omega
   have hix:=run_index_doms (LB:=LB) hk16 wq
   obtain⟨m0,m1,m2,m3,m4,m5,m6,m7,m8,m9,m10,m11,m12,m13,m14,m15⟩:=(HL.out.keep HB.out).cells16 hk16
   go_wp2_with fail
   refine(has16_any (T k) k hk16 _).mono ?_
   rintro e w2 ⟨rfl,b2⟩
   have B2:Hid (Below w.heap.size w w2):=Bel.after HB.out b2
   clear b2 hix m0 m1 m2 m3 m4 m5 m6 m7 m8 m9 m10 m11 m12 m13 m14 m15
   have HTK:=HT.out k hk16
   cases htk:T k k with
   | true=>
    have HK:Hid (k∈(wayOf F).1):=HTK.1 htk
    clear HTK htk
    go_wp2_with fail
    go_roundw
    case rel=>
     refine⟨k+1,by omega,by go_num,B2.out,fun b hb=>?_⟩
     by_cases e:b=k
     ·subst e
      exact HK.out
     ·exact HNO.out b (by omega)
    case measure=>simp[intOf];omega
   | false=>
    have HK:Hid (¬k∈(wayOf F).1):=fun h=>by rw[HTK.2 h] at htk;cases htk
    clear HTK htk
    go_wp2_with fail
    refine(fail_any _ _ _ _ _).mono ?_
    rintro e w5 ⟨rfl,b5⟩
    exact⟨rfl,.inr ⟨fun h=>HK.out (h k (by have:=HN.out;omega)),_,_,rfl⟩,Bel.after B2.out b5⟩
  ·go_wp2_with fail
   refine⟨rfl,_,results_none rfl _ _ _,.inl ⟨fun h=>h fun b hb=>?_,_,rfl⟩,HB.out⟩
   exact HNO.out b (by have:=HN.out;omega)
end Go.Proofs.YtfnilamkapabkaaGreatDoor
namespace Go.Proofs.YtfnilamkapabkaaGreatDoor
open Go.ChangeShapes Go.WideShapes Go.ChangeAt Go.RowKit Go.Shelf
set_option linter.unusedVariables false
theorem firstV_once {v:Int}:∀{l:List Made},(l.map (fun m=>m.1)).Nodup→∀m∈l,m.1=v→firstV v l=some m
 | [],_,m,hm,_=>absurd hm (by simp)
 | x :: l,hn,m,hm,he=>by
  rw[List.map_cons,List.nodup_cons] at hn
  unfold firstV
  rw[List.find?_cons]
  rcases List.mem_cons.1 hm with rfl | hm
  ·simp[he]
  ·have hne:¬x.1=v:=fun e=>hn.1 (by rw[e,←he];exact List.mem_map_of_mem hm)
   simp only[hne,decide_false]
   exact firstV_once hn.2 m hm he
theorem known_hit {F:FnD}(hS:FnShape F)(hO:MadeOnce F){m:Made}(hm:m∈makesOf F)(b:Nat)(at_:Int):Known F m.1 b at_↔(if m.2.1=(b:Int) then m.2.2<at_ else 0≤m.2.1∧m.2.1∈domsN F b):=by
 unfold Known
 rw[defAtOf_yes hS,firstV_once hO m hm rfl]
 rfl
theorem known_miss {F:FnD}(hS:FnShape F){v:Int}(hv:¬v∈(makesOf F).map (fun m=>m.1))(b:Nat)(at_:Int):¬Known F v b at_:=by
 unfold Known
 rw[defAtOf_end hS (firstV_none.2 (fun m hm e=>hv (by rw[←e];exact List.mem_map_of_mem hm)))]
 rw[if_neg (by show ¬(-1:Int)=_;omega)]
 rintro⟨h,_⟩
 exact absurd h (by decide)
theorem spot_is {v:Value}{a b:Int}{ps:List MemPlace}(h:spotElem v=some (.agg [.lit (.int .i64 a),.lit (.int .i64 b)],ps)):v = .agg #[.int .i64 a,.int .i64 b]:=by
 obtain⟨sa,sb,rfl,e⟩:=spotElem_inv h
 simp at e
 rw[e.1,e.2]
set_option maxRecDepth 100000 in
set_option maxHeartbeats 8000000 in
theorem ahead_any (F:FnD)(ba:Option Addr)(n bcap:Nat)(vals:Int)(T:Tab)(LB mb:Nat)(x:Int)(bk:Nat)(pl:Int)(w:World)(hN:F.blocks.length=n)(hS:FnShape F)(hO:MadeOnce F)(hT:T=fun b a=>domB F a b)
  (hL:LookAt w LB (.slice ba n bcap) vals T mb) (hM:MadeMap w mb (makesOf F)) (hx:(Lit.int .i64 x).wf=true) (hb:bk<n) (hin:∀m∈makesOf F,0≤m.2.1∧m.2.1<(n:Int)) :
  Calls Tryz.prog 204 #[.pointer (some ⟨LB,0,none⟩),.int .i64 x,.agg #[.int .i64 (bk:Int),.int .i64 pl]] w fun e w'=>TellsP w (Known F x bk pl) e w':=by
 have HN:Hid (F.blocks.length=n):=hN
 have HS:Hid (FnShape F):=hS
 have HO:Hid (MadeOnce F):=hO
 have HT:Hid (T=fun b a=>domB F a b):=hT
 have HL:Hid (LookAt w LB (.slice ba n bcap) vals T mb):=hL
 have HIN:Hid (∀m∈makesOf F,0≤m.2.1∧m.2.1<(n:Int)):=hin
 have c258:=hL.c258
 have hLl:LB<w.heap.size:=hL.lt
 have c258':(w.alloc (.cells #[.int .i64 (bk:Int),.int .i64 pl] 100)).cell? ⟨LB,258,none⟩=some (.map (some mb)):=Bel.keeps (Bel.alloc _ _) c258
 have hn16:n≤16:=by have:=hS.2.1;omega
 have hbk16:bk<16:=by omega
 obtain⟨D,hown,hD,hAt⟩:=hM
 have hkey:keyOf Tryz.prog 3 (.int .i64 x)=some (.int .i64 x):=Maps.keyOf_int_mk Tryz.underlying3 hx
 have zs:∀w,(zeroValue 100).run Tryz.prog w = .ok (.agg #[.int .i64 0,.int .i64 0]) w:=fun w=>by kernel_rfl
 have hown2:(w.alloc (.cells #[.int .i64 (bk:Int),.int .i64 pl] 100)).ownsMap Tryz.prog 3 spotElem mb (makesOf F).length D:=by
  obtain⟨es,ck,h1,h2⟩:=hown
  exact⟨es,ck,((Bel.alloc w _).block mb (Array.getElem?_eq_some_iff.1 h1).1).trans h1,h2⟩
 have HAT:Hid (∀m∈makesOf F,∀z,D.atKey (.int .i64 m.1) z=litOf m.2):=hAt hO
 clear hS hL hN hT hO hx hin hown hAt
 by_cases hmem:x∈(makesOf F).map (fun m=>m.1)
 ·have hh:Maps.has D (.int .i64 x)=true:=by rw[hD];exact decide_eq_true hmem
  obtain⟨m,hm,hmx⟩:=List.mem_map.1 hmem
  have HM:Hid (m∈makesOf F):=hm
  have HK:Hid (Known F x bk pl↔(if m.2.1=(bk:Int) then m.2.2<pl else 0≤m.2.1∧m.2.1∈domsN F bk)):=by
   have:=known_hit HS.out HO.out hm bk pl
   rw[hmx] at this
   exact this
  obtain⟨db,hdb⟩:∃db:Nat,m.2.1=(db:Int):=⟨m.2.1.toNat,by have:=HIN.out m hm;omega⟩
  have hdbn:db<16:=by have:=HIN.out m hm;omega
  obtain⟨dp,hdp⟩:∃dp,m.2.2=dp:=⟨_,rfl⟩
  have hat:∀z,D.atKey (.int .i64 x) z = .agg [.lit (.int .i64 (db:Int)),.lit (.int .i64 dp)]:=fun z=>by rw[←hmx,HAT.out m hm z,litOf,hdb,hdp]
  rw[hdb,hdp] at HK
  clear hmem hm hmx hD hdb hdp
  by_cases hdk:db=bk
  ·subst hdk
   have HK2:Hid (Known F x db pl↔dp<pl):=by
    have h:=HK.out
    rw[if_pos rfl] at h
    exact h
   have hee:((db:Int) == (db:Int))=true:=by simp
   clear HK
   go_enter Tryz.func204,Tryz.ntmps204
   go_wp2_with (at_lookup;refine wpList_lookup_own_ok _ rfl _ _ 170 rfl 3 100 keyed_made Tryz.underlying170 spotElem (zs _) _ [] (spotElem_mk 0 0) mb _ D rfl hown2 _ _ rfl hkey ?_;intro v9 ps9 hv9;rw[hat] at hv9;have e9:=spot_is hv9;subst e9;rw[hh])
   go_ret
   exact⟨decide (dp<pl),rfl,by rw[decide_eq_true_iff];exact HK2.out.symm,Bel.after (Bel.alloc _ _) (Bel.alloc _ _)⟩
  ·have HK2:Hid (Known F x bk pl↔T bk db=true):=by
    have h:=HK.out
    rw[if_neg (by omega)] at h
    show Known F x bk pl↔_
    rw[h,HT.out]
    show _↔domB F db bk=true
    rw[←domsN_mem HS.out,decide_eq_true_iff]
    exact⟨fun h=>h.2,fun h=>⟨by omega,h⟩⟩
   have hee:((db:Int) == (bk:Int))=false:=by simp;omega
   clear HK
   go_enter Tryz.func204,Tryz.ntmps204
   go_wp2_with (at_lookup;refine wpList_lookup_own_ok _ rfl _ _ 170 rfl 3 100 keyed_made Tryz.underlying170 spotElem (zs _) _ [] (spotElem_mk 0 0) mb _ D rfl hown2 _ _ rfl hkey ?_;intro v9 ps9 hv9;rw[hat] at hv9;have e9:=spot_is hv9;subst e9;rw[hh])
   obtain⟨W2,hW2⟩:∃W,(w.alloc (.cells #[.int .i64 (bk:Int),.int .i64 pl] 100)).alloc (.cells #[.int .i64 (db:Int),.int .i64 dp] 100)=W:=⟨_,rfl⟩
   have B2:Hid (Below w.heap.size w W2):=by show Below _ _ _;rw[←hW2];exact Bel.after (Bel.alloc _ _) (Bel.alloc _ _)
   have y0:W2.cell? ⟨w.heap.size,0,none⟩=some (.int .i64 (bk:Int)):=by rw[←hW2];simp[go_sem]
   have z0:W2.cell? ⟨w.heap.size+1,0,none⟩=some (.int .i64 (db:Int)):=by rw[←hW2];simp[go_sem]
   have hR:=(HL.out.keep B2.out).row hbk16
   have hu:=Tryz.underlying93
   have hi:(Tryz.prog.info? 93).map (·.size)=some (rowC (T bk)).length:=by rw[rowC_len];exact info_set
   have hix:=fun W=>run_index_doms (LB:=LB) hbk16 W
   rw[hW2]
   clear hW2 c258 c258' hown2 zs hkey
   go_region_held3 (fun w'=>w'.cell? ⟨w.heap.size,0,none⟩=some (.int .i64 (bk:Int))∧w'.cell? ⟨w.heap.size+1,0,none⟩=some (.int .i64 (db:Int))∧w'.rangeAt LB (2+bk*16) (rowC (T bk))) (first | exact⟨Bel.keeps B5.out y0,Bel.keeps B5.out z0,fun j v hv=>Bel.keeps B5.out (hR j v hv)⟩ | go_keep) (first | (go_at_call 65;refine(setHas_any (T bk) db hdbn _).mono ?_;rintro e w5 ⟨rfl,hb5⟩;have B5:Hid (Below W2.heap.size W2 w5):=Bel.after ((Below.refl _ _).drew) hb5;clear hb5))
   simp only[Exit.then]
   go_at_K
   go_wp2_with fail
   go_ret
   exact⟨T bk db,rfl,HK2.out.symm,Bel.after B2.out B5.out⟩
 ·have hh:Maps.has D (.int .i64 x)=false:=by rw[hD];exact decide_eq_false hmem
  have HK:Hid (¬Known F x bk pl):=known_miss HS.out hmem bk pl
  clear hmem hD
  go_enter Tryz.func204,Tryz.ntmps204
  go_wp2_with (at_lookup;refine wpList_lookup_own_ok _ rfl _ _ 170 rfl 3 100 keyed_made Tryz.underlying170 spotElem (zs _) _ [] (spotElem_mk 0 0) mb _ D rfl hown2 _ _ rfl hkey ?_;intro v9 ps9 hv9;obtain⟨sa,sb,rfl,_⟩:=spotElem_inv hv9;rw[hh])
  obtain⟨W2,hW2⟩:∃W,(w.alloc (.cells #[.int .i64 (bk:Int),.int .i64 pl] 100)).alloc (.cells #[.int .i64 sa,.int .i64 sb] 100)=W:=⟨_,rfl⟩
  have B2:Hid (Below w.heap.size w W2):=by show Below _ _ _;rw[←hW2];exact Bel.after (Bel.alloc _ _) (Bel.alloc _ _)
  have y0:W2.cell? ⟨w.heap.size,0,none⟩=some (.int .i64 (bk:Int)):=by rw[←hW2];simp[go_sem]
  rw[hW2]
  clear hW2 c258 c258' hown2 zs hkey
  refine wp_region_held_drew (S:=fun w'=>w'.cell? ⟨w.heap.size,0,none⟩=some (.int .i64 (bk:Int))) (by kernel_rfl) y0 (fun hHeld=>?_)
  refine wpAnyH_take (i:=0) (oi:=⟨some 31,.move (.tmp 8),4,"l05_check.go:188",#[],none⟩) (v := .bool false) rfl (by kernel_rfl) (by kernel_rfl) (by kernel_rfl) (fun _ _ _ h=>h) (Or.inl ⟨by rfl,fun _ _=>by first | rfl | go_simp⟩) (by assumption) ?_
  try simp only[Act.put,List.setIfInBounds_toArray,List.set_cons_zero,List.set_cons_succ]
  refine wpAnyH_take (i:=1) (oi:=⟨some 32,.move (.tmp 31),4,"l05_check.go:188",#[⟨0,.data⟩],none⟩) (v := .bool false) rfl (by kernel_rfl) (by kernel_rfl) (by kernel_rfl) (fun _ _ _ h=>h) (Or.inl ⟨by rfl,fun _ _=>by first | rfl | go_simp⟩) (by assumption) ?_
  try simp only[Act.put,List.setIfInBounds_toArray,List.set_cons_zero,List.set_cons_succ]
  refine wpAnyH_take (i:=2) (oi:=⟨some 33,.move (.tmp 0),169,"l05_check.go:188",#[⟨1,.guard⟩],some (1,true)⟩) (v:=undef) rfl (by kernel_rfl) (by kernel_rfl) (by kernel_rfl) (fun _ _ _ h=>h) (Or.inr ⟨by rfl,rfl⟩) (by assumption) ?_
  try simp only[Act.put,List.setIfInBounds_toArray,List.set_cons_zero,List.set_cons_succ]
  refine wpAnyH_take (i:=3) (oi:=⟨some 34,.fieldAddr 100 (.tmp 5) 0,0,"l05_check.go:188",#[⟨1,.guard⟩],some (1,true)⟩) (v:=undef) rfl (by kernel_rfl) (by kernel_rfl) (by kernel_rfl) (fun _ _ _ h=>h) (Or.inr ⟨by rfl,rfl⟩) (by assumption) ?_
  try simp only[Act.put,List.setIfInBounds_toArray,List.set_cons_zero,List.set_cons_succ]
  refine wpAnyH_take (i:=4) (oi:=⟨some 35,.load 3 (.tmp 34),3,"l05_check.go:188",#[⟨3,.data⟩,⟨1,.guard⟩],some (1,true)⟩) (v:=undef) rfl (by kernel_rfl) (by kernel_rfl) (by kernel_rfl) (fun _ _ _ h=>h) (Or.inr ⟨by rfl,rfl⟩) (by assumption) ?_
  try simp only[Act.put,List.setIfInBounds_toArray,List.set_cons_zero,List.set_cons_succ]
  refine wpAnyH_take (i:=5) (oi:=⟨some 36,.nilCheck (.tmp 33),0,"l05_check.go:188",#[⟨2,.data⟩,⟨1,.guard⟩],some (1,true)⟩) (v:=undef) rfl (by kernel_rfl) (by kernel_rfl) (by kernel_rfl) (fun _ _ _ h=>h) (Or.inr ⟨by rfl,rfl⟩) (by assumption) ?_
  try simp only[Act.put,List.setIfInBounds_toArray,List.set_cons_zero,List.set_cons_succ]
  refine wpAnyH_take (i:=6) (oi:=⟨some 37,.fieldAddr 172 (.tmp 36) 1,0,"l05_check.go:188",#[⟨5,.data⟩,⟨1,.guard⟩],some (1,true)⟩) (v:=undef) rfl (by kernel_rfl) (by kernel_rfl) (by kernel_rfl) (fun _ _ _ h=>h) (Or.inr ⟨by rfl,rfl⟩) (by assumption) ?_
  try simp only[Act.put,List.setIfInBounds_toArray,List.set_cons_zero,List.set_cons_succ]
  refine wpAnyH_take (i:=7) (oi:=⟨some 38,.indexAddr 95 (.tmp 37) (.tmp 35),0,"l05_check.go:188",#[⟨6,.data⟩,⟨4,.data⟩,⟨1,.guard⟩],some (1,true)⟩) (v:=undef) rfl (by kernel_rfl) (by kernel_rfl) (by kernel_rfl) (fun _ _ _ h=>h) (Or.inr ⟨by rfl,rfl⟩) (by assumption) ?_
  try simp only[Act.put,List.setIfInBounds_toArray,List.set_cons_zero,List.set_cons_succ]
  refine wpAnyH_take (i:=8) (oi:=⟨some 39,.load 93 (.tmp 38),93,"l05_check.go:188",#[⟨7,.data⟩,⟨1,.guard⟩],some (1,true)⟩) (v:=undef) rfl (by kernel_rfl) (by kernel_rfl) (by kernel_rfl) (fun _ _ _ h=>h) (Or.inr ⟨by rfl,rfl⟩) (by assumption) ?_
  try simp only[Act.put,List.setIfInBounds_toArray,List.set_cons_zero,List.set_cons_succ]
  refine wpAnyH_take (i:=9) (oi:=⟨some 40,.fieldAddr 100 (.tmp 7) 0,0,"l05_check.go:188",#[⟨1,.guard⟩],some (1,true)⟩) (v:=undef) rfl (by kernel_rfl) (by kernel_rfl) (by kernel_rfl) (fun _ _ _ h=>h) (Or.inr ⟨by rfl,rfl⟩) (by assumption) ?_
  try simp only[Act.put,List.setIfInBounds_toArray,List.set_cons_zero,List.set_cons_succ]
  refine wpAnyH_take (i:=10) (oi:=⟨some 41,.load 3 (.tmp 40),3,"l05_check.go:188",#[⟨9,.data⟩,⟨1,.guard⟩],some (1,true)⟩) (v:=undef) rfl (by kernel_rfl) (by kernel_rfl) (by kernel_rfl) (fun _ _ _ h=>h) (Or.inr ⟨by rfl,rfl⟩) (by assumption) ?_
  try simp only[Act.put,List.setIfInBounds_toArray,List.set_cons_zero,List.set_cons_succ]
  refine wpAnyH_take (i:=11) (oi:=⟨some 42,.call ⟨.value (.func 65),#[.tmp 39,.tmp 41],#[93,3]⟩,4,"l05_check.go:188",#[⟨8,.data⟩,⟨10,.data⟩,⟨1,.chain⟩,⟨1,.guard⟩],some (1,true)⟩) (v:=undef) rfl (by kernel_rfl) (by kernel_rfl) (by kernel_rfl) (fun _ _ _ h=>h) (Or.inr ⟨by rfl,rfl⟩) (by assumption) ?_
  try simp only[Act.put,List.setIfInBounds_toArray,List.set_cons_zero,List.set_cons_succ]
  refine wpAnyH_take (i:=12) (oi:=⟨some 43,.pick (.tmp 32) (.tmp 42) (.const (.bool false)),4,"l05_check.go:188",#[⟨1,.data⟩,⟨11,.data⟩],none⟩) (v := .bool false) rfl (by kernel_rfl) (by kernel_rfl) (by kernel_rfl) (fun _ _ _ h=>h) (Or.inl ⟨by rfl,fun _ _=>by first | rfl | go_simp⟩) (by assumption) ?_
  try simp only[Act.put,List.setIfInBounds_toArray,List.set_cons_zero,List.set_cons_succ]
  refine wpAnyH_take (i:=13) (oi:=⟨some 6,.assign (.tmp 43),4,"l05_check.go:188",#[⟨12,.data⟩,⟨11,.chain⟩,⟨0,.phase⟩,⟨1,.phase⟩,⟨2,.phase⟩,⟨3,.phase⟩,⟨4,.phase⟩,⟨5,.phase⟩,⟨6,.phase⟩,⟨7,.phase⟩,⟨8,.phase⟩,⟨9,.phase⟩,⟨10,.phase⟩,⟨11,.phase⟩,⟨12,.phase⟩],none⟩) (v := .bool false) rfl (by kernel_rfl) (by kernel_rfl) (by kernel_rfl) (fun _ _ _ h=>h) (Or.inl ⟨by rfl,fun _ _=>by first | rfl | go_simp⟩) (by assumption) ?_
  try simp only[Act.put,List.setIfInBounds_toArray,List.set_cons_zero,List.set_cons_succ]
  refine wpAnyH_done (by kernel_rfl) ?_ _
  simp only[Exit.then]
  go_at_K
  go_wp2_with fail
  go_ret
  exact⟨false,rfl,⟨fun h=>(by cases h),fun h=>absurd h HK.out⟩,B2.out.drew⟩
end Go.Proofs.YtfnilamkapabkaaGreatDoor
