/- The contract of the sort of a list of numbers, laid at this program. The blocks that the arms of a phi are from, sorted; lists of numbers held against each other. The look, its steps: the arms of the phis. -/
import Derived.Shelf.Sort.Plain
import Derived.Test.YtfnilamkapabkaaGreatDoorProg
import Derived.Test.YtfnilamkapabkaaGreatDoorKMake
import Derived.Test.YtfnilamkapabkaaGreatDoorKMark
import Derived.Test.YtfnilamkapabkaaGreatDoorKGraph
import Derived.Test.YtfnilamkapabkaaGreatDoorKCkS
import Derived.Sort.OwnSortedInts
import Derived.Test.YtfnilamkapabkaaGreatDoorKCkB
namespace Go.Proofs
open Go.Shelf
def Tryz.lays189_ren : Go.Shelf.Ren:=⟨fun | 189=>203 | 125=>213 | 257=>212 | 128=>226 | 129=>227 | 294=>217 | 295=>218 | 296=>219 | 297=>220 | 298=>221 | 299=>222 | 216=>223 | 300=>224 | 301=>225 | 328=>230 | 329=>231 | 330=>232 | 331=>233 | 332=>234 | 215=>235 | 343=>236 | n=>n,fun | 28=>29 | 3=>3 | 46=>269 | 0=>0 | 51=>297 | 53=>299 | 4=>4 | 183=>291 | 182=>290 | 131=>120 | 5=>5 | 9=>9 | 218=>303 | 222=>272 | 228=>308 | 229=>48 | n=>n,fun | n=>n⟩
theorem Tryz.lays189 : Go.Proofs.Lays.n189 Tryz.prog Tryz.lays189_ren := {
 mixed:=by kernel_rfl
 f125:=Tryz.func213.trans (congrArg some (by kernel_rfl))
 f128:=Tryz.func226.trans (congrArg some (by kernel_rfl))
 f129:=Tryz.func227.trans (congrArg some (by kernel_rfl))
 f189:=Tryz.func203.trans (congrArg some (by kernel_rfl))
 f215:=Tryz.func235.trans (congrArg some (by kernel_rfl))
 f216:=Tryz.func223.trans (congrArg some (by kernel_rfl))
 f257:=Tryz.func212.trans (congrArg some (by kernel_rfl))
 f294:=Tryz.func217.trans (congrArg some (by kernel_rfl))
 f295:=Tryz.func218.trans (congrArg some (by kernel_rfl))
 f296:=Tryz.func219.trans (congrArg some (by kernel_rfl))
 f297:=Tryz.func220.trans (congrArg some (by kernel_rfl))
 f298:=Tryz.func221.trans (congrArg some (by kernel_rfl))
 f299:=Tryz.func222.trans (congrArg some (by kernel_rfl))
 f300:=Tryz.func224.trans (congrArg some (by kernel_rfl))
 f301:=Tryz.func225.trans (congrArg some (by kernel_rfl))
 f328:=Tryz.func230.trans (congrArg some (by kernel_rfl))
 f329:=Tryz.func231.trans (congrArg some (by kernel_rfl))
 f330:=Tryz.func232.trans (congrArg some (by kernel_rfl))
 f331:=Tryz.func233.trans (congrArg some (by kernel_rfl))
 f332:=Tryz.func234.trans (congrArg some (by kernel_rfl))
 f343:=Tryz.func236.trans (congrArg some (by kernel_rfl))
 t0:=Tryz.underlying0
 a0:=Tryz.isAgg0
 z0:=Tryz.sizeOf0
 v0:=Tryz.zeroValue0
 t3:=Tryz.underlying3
 a3:=Tryz.isAgg3
 z3:=Tryz.sizeOf3
 v3:=Tryz.zeroValue3
 t4:=Tryz.underlying4
 a4:=Tryz.isAgg4
 z4:=Tryz.sizeOf4
 v4:=Tryz.zeroValue4
 t5:=Tryz.underlying5
 a5:=Tryz.isAgg5
 z5:=Tryz.sizeOf5
 v5:=Tryz.zeroValue5
 t9:=Tryz.underlying9
 a9:=Tryz.isAgg9
 z9:=Tryz.sizeOf9
 v9:=Tryz.zeroValue9
 t28:=Tryz.underlying29
 a28:=Tryz.isAgg29
 z28:=Tryz.sizeOf29
 v28:=Tryz.zeroValue29
 t46:=Tryz.underlying269
 a46:=Tryz.isAgg269
 z46:=Tryz.sizeOf269
 v46:=Tryz.zeroValue269
 t51:=Tryz.underlying297
 a51:=Tryz.isAgg297
 z51:=Tryz.sizeOf297
 v51:=Tryz.zeroValue297
 t53:=Tryz.underlying299
 a53:=Tryz.isAgg299
 z53:=Tryz.sizeOf299
 v53:=Tryz.zeroValue299
 t131:=Tryz.underlying120
 a131:=Tryz.isAgg120
 z131:=Tryz.sizeOf120
 v131:=Tryz.zeroValue120
 t182:=Tryz.underlying290
 a182:=Tryz.isAgg290
 z182:=Tryz.sizeOf290
 v182:=Tryz.zeroValue290
 t183:=Tryz.underlying291
 a183:=Tryz.isAgg291
 z183:=Tryz.sizeOf291
 v183:=Tryz.zeroValue291
 t218:=Tryz.underlying303
 a218:=Tryz.isAgg303
 z218:=Tryz.sizeOf303
 v218:=Tryz.zeroValue303
 t222:=Tryz.underlying272
 a222:=Tryz.isAgg272
 z222:=Tryz.sizeOf272
 v222:=Tryz.zeroValue272
 t228:=Tryz.underlying308
 a228:=Tryz.isAgg308
 z228:=Tryz.sizeOf308
 v228:=Tryz.zeroValue308
 t229:=Tryz.underlying48
 a229:=Tryz.isAgg48
 z229:=Tryz.sizeOf48
 v229:=Tryz.zeroValue48 }
end Go.Proofs
namespace Go.Proofs.YtfnilamkapabkaaGreatDoor
open Go.ChangeShapes Go.WideShapes Go.ChangeAt Go.RowKit
set_option linter.unusedVariables false
theorem sort_any (lo g cap n:Nat)(l:List Int)(hn:l.length=n)(w:World)(h:OwnInts w lo (.slice (some ⟨g,0,none⟩) n cap) l)(hl:n≤1000) :
  Calls Tryz.prog 203 #[.slice (some ⟨g,0,none⟩) n cap] w fun e w'=>(∃r,e = .returned r)∧OwnInts w' lo (.slice (some ⟨g,0,none⟩) n cap) (sortI l)∧Below lo w w':=by
 subst hn
 rcases h.2 with ⟨h0,_⟩ | ⟨g',cap',cur,hv,hlo,hg,h1,h2,h3,h4⟩
 ·cases h0
 cases hv
 have hlt:g<w.heap.size:=(Array.getElem?_eq_some_iff.1 hg).1
 have hc:=Any.slices_Sort_int Tryz.lays189 g 0 cap l w (holds_of_blockI hg (by simpa using h4)) hlt (by omega)
 refine Calls.mono hc ?_
 rintro e w' ⟨rfl,n,os,rfl⟩
 refine⟨⟨_,rfl⟩,?_,?_⟩
 ·unfold OwnInts
  rw[sortI_len]
  exact ownsRow_sortedI (ss:=l) (ts:=sortI l) (sortI_len l) hlo hg h1 h2 h3
 ·refine(Below.refl lo w).grown (grownBy_sortedI _) (by omega) fun j ej=>?_
  cases ej
  exact hlo
set_option maxRecDepth 100000 in
set_option maxHeartbeats 4000000 in
theorem fromsOf_any (d:Int)(av:Value)(arms:List ArmD)(w:World)(hA:ListAt 0 2 ArmAt w av arms)(h16:arms.length≤16) :
  Calls Tryz.prog 162 #[.agg #[.int .i64 d,av]] w fun e w'=>GivesOwn w (sortI (arms.map (fun a=>a.fr))) e w':=by
 have HA:Hid (ListAt 0 2 ArmAt w av arms):=hA
 obtain⟨m,HM⟩:∃q,Hid (arms.length=q):=⟨_,rfl⟩
 obtain⟨aa,acap,rfl,ham,_⟩:=hA
 rw[HM.out] at ham h16 HA ⊢
 obtain⟨i0,hi,hz0,hz1,hz2⟩:=info_parts info_int
 have hmx:100≤maxLen:=by decide
 go_enter Tryz.func162,Tryz.ntmps162
 go_wp2_with fail
 obtain⟨w1,hw1⟩:∃W,(w.alloc (.cells #[.int .i64 d,.slice aa m acap] 74)).alloc (.cells #[] 3)=W:=⟨_,rfl⟩
 have B1:Hid (Below w.heap.size w w1):=by show Below _ _ _;rw[←hw1];repeat (first | exact Below.refl _ _ | apply Below.drew | refine Below.alloc ?_ (by simp <;> omega) _ | refine Below.setCell ?_ (by simp <;> omega) _)
 have O1:Hid (OwnInts w1 w.heap.size (.slice (some ⟨w.heap.size+1,0,none⟩) 0 0) []):=by show OwnInts _ _ _ _;rw[←hw1];exact ownInts_nil (by simp) (by omega)
 rw[hw1]
 clear hw1
 go_loopw [3,10] (fun s i wr=>∃k:Nat,k≤m∧i = .int .i64 k∧OwnInts wr w.heap.size s ((arms.take k).map (fun a=>a.fr))∧s≠.slice none 0 0∧Below w.heap.size w wr) (fun _ i _=>m-(intOf i).toNat)
 case atStart=>exact⟨0,Nat.zero_le _,rfl,O1.out,by simp,B1.out⟩
 case round=>
  obtain⟨wq,hwq⟩:∃x,x=wr:=⟨_,rfl⟩
  subst hwq
  obtain⟨k,hk,rfl,ho,hnn,hB⟩:=hrel
  have HO:Hid (OwnInts wq w.heap.size u3 ((arms.take k).map (fun a=>a.fr))):=ho
  have HNN:Hid (u3≠.slice none 0 0):=hnn
  have HB:Hid (Below w.heap.size w wq):=hB
  have hlen:((arms.take k).map (fun a=>a.fr)).length=k:=by have:=HM.out;simp;omega
  have HLEN:Hid (((arms.take k).map (fun a=>a.fr)).length=k):=hlen
  clear ho hnn hB hlen
  by_cases hlt2:(k:Int)<(m:Int)
  ·obtain⟨a,hx⟩:∃a,arms[k]? = some a:=⟨_,List.getElem?_eq_getElem (by have:=HM.out;omega)⟩
   have HX:Hid (arms[k]? = some a):=hx
   obtain⟨ab,aoff,rfl,x0,x1⟩:=listAt_at (HA.out.keep (fun b o z hb h=>h.keep (Keeps.of_below HB.out 0) hb)) hx
   obtain⟨fr,HFR⟩:∃q,Hid (a.fr=q):=⟨_,rfl⟩
   obtain⟨av,HAV⟩:∃q,Hid (a.v=q):=⟨_,rfl⟩
   rw[HFR.out] at x0
   rw[HAV.out] at x1
   have hsz:=HB.out.size
   clear hx
   go_wp2_with (at_builtin;refine wpList_append_own _ rfl _ _ 29 rfl w.heap.size 3 i0 (.int .i64 0) 1 8 Tryz.underlying29 hi hz0 hz1 hz2 rfl (by decide) _ _ _ rfl (World.ownsRow.alloc (World.ownsRow.alloc HO.out _) _) ⟨wq.heap.size+1,0,none⟩ 1 1 [.int .i64 fr] rfl rfl (by have h:=cell_one_new (wq.alloc (.cells #[.int .i64 fr,.int .i64 av] 146)) (.int .i64 fr) 3;rw[show(wq.alloc (.cells #[.int .i64 fr,.int .i64 av] 146)).heap.size=wq.heap.size+1 by simp] at h;exact h) (by simp[Value.oneCell']) (by have:=HLEN.out;omega) (by have:=HLEN.out;omega) (by simp;omega) ?_;intro v' wa hown' hgrow hnil;have HO':Hid (OwnInts wa w.heap.size v' ((arms.take k).map (fun a=>a.fr) ++ [fr])):=OwnInts.next hown';have HG:Hid (World.grownBy _ _ _):=hgrow;have HNN2:Hid (v'≠.slice none 0 0):=fun h=>absurd (hnil.1 h).2 (by omega);clear hown' hgrow hnil)
   go_roundw
   case rel=>
    refine⟨k+1,by omega,by go_num,?_,HNN2.out,?_⟩
    ·rw[List.take_add_one,HX.out,Option.toList_some,List.map_append,List.map_singleton,HFR.out]
     exact HO'.out
    ·exact(HB.out.alloc hsz _).trans (OwnInts.grown (World.ownsRow.alloc HO.out _) (by simp;omega) HG.out)
   case measure=>simp[intOf];omega
  ·have hkm:k=m:=by omega
   subst hkm
   have HE:Hid ((arms.take k).map (fun a=>a.fr)=arms.map (fun a=>a.fr)):=by show _=_;rw[List.take_of_length_le (by have:=HM.out;omega)]
   rw[HE.out] at HO HLEN
   obtain⟨g,gcap,hv⟩:∃g gcap,u3 = .slice (some ⟨g,0,none⟩) k gcap:=by
    rcases HO.out.2 with ⟨h0,_⟩ | ⟨g,cap,cur,h0,_⟩
    ·exact absurd h0 HNN.out
    ·exact⟨g,cap,by rw[h0,HLEN.out]⟩
   subst hv
   go_wp2_with fail
   refine(sort_any w.heap.size g gcap k (arms.map (fun a=>a.fr)) HLEN.out _ HO.out (by omega)).mono ?_
   rintro e w3 ⟨⟨r,rfl⟩,o3,b3⟩
   have O3:Hid (OwnInts w3 w.heap.size (.slice (some ⟨g,0,none⟩) k gcap) (sortI (arms.map (fun a=>a.fr)))):=o3
   have B3:Hid (Below w.heap.size w w3):=HB.out.trans b3
   clear o3 b3
   go_wp2_with fail
   go_ret
   exact⟨_,rfl,O3.out,B3.out⟩
set_option maxHeartbeats 1000000 in
theorem sliceEqual_any (va vb:Value)(l m:List Int)(w:World)(ha:IntsAt w va l)(hb:IntsAt w vb m) :
  Calls Tryz.prog 161 #[va,vb] w fun e w'=>e = .returned (.bool (decide (l=m)))∧Below w.heap.size w w':=by
 obtain⟨aa,ca,rfl,hma,hca⟩:=ha
 obtain⟨ab,cb,rfl,hmb,hcb⟩:=hb
 obtain⟨n,HN⟩:∃n,Hid (l.length=n):=⟨_,rfl⟩
 obtain⟨n',HN'⟩:∃n,Hid (m.length=n):=⟨_,rfl⟩
 rw[HN.out] at hma hca ⊢
 rw[HN'.out] at hmb hcb ⊢
 have HA:Hid (0<n→∃b off,aa=some ⟨b,off,none⟩∧∀i,i<n→w.cell? ⟨b,off+i,none⟩=some (.int .i64 (l.getD i 0))):=hca
 have HB:Hid (0<n'→∃b off,ab=some ⟨b,off,none⟩∧∀i,i<n'→w.cell? ⟨b,off+i,none⟩=some (.int .i64 (m.getD i 0))):=hcb
 clear hca hcb
 by_cases hlen:n=n'
 ·have HL:Hid (n=n'):=hlen
  have hne:((n:Int) != (n':Int))=false:=by simp[hlen]
  clear hlen
  go_enter Tryz.func161,Tryz.ntmps161
  go_wp2
  go_loopw [13] (fun i wr=>∃k:Nat,k≤n∧i = .int .i64 k∧l.take k=m.take k∧Below w.heap.size w wr) (fun i _=>n-(intOf i).toNat)
  case atStart=>exact⟨0,Nat.zero_le _,rfl,by simp,Below.refl _ _⟩
  case round=>
   obtain⟨k,hk,rfl,htk,hb3⟩:=hrel
   have HT:Hid (l.take k=m.take k):=htk
   have HBel:Hid (Below w.heap.size w wr):=hb3
   clear htk hb3
   by_cases hlt:(k:Int)<(n:Int)
   ·obtain⟨b,off,rfl,hc1⟩:=HA.out (by omega)
    obtain⟨b',off',rfl,hc2⟩:=HB.out (by have:=HL.out;omega)
    obtain⟨x,HX⟩:∃x,Hid (l.getD k 0=x):=⟨_,rfl⟩
    obtain⟨y,HY⟩:∃y,Hid (m.getD k 0=y):=⟨_,rfl⟩
    have q1:=Bel.keeps HBel.out (hc1 k (by omega))
    have q2:=Bel.keeps HBel.out (hc2 k (by have:=HL.out;omega))
    rw[HX.out] at q1
    rw[HY.out] at q2
    have hlt':k<n':=by have:=HL.out;omega
    clear hc1 hc2
    by_cases he:x=y
    ·have hne2:(x != y)=false:=by simp[he]
     have HE:Hid (x=y):=he
     clear he
     go_wp2
     go_quiet (fail)
     go_wp2
     go_roundw
     case rel=>exact⟨k+1,by omega,by go_num,lists_step (by have:=HN.out;omega) (by have:=HN'.out;omega) HT.out (by rw[HX.out,HY.out];exact HE.out),HBel.out.trans ⟨rfl,rfl,rfl,Nat.le_refl _,fun _ _=>rfl⟩⟩
     case measure=>simp[intOf];omega
    ·have hne2:(x != y)=true:=by simpa using he
     have HE:Hid (¬x=y):=he
     clear he
     go_wp2
     go_quiet (fail)
     go_wp2
     go_ret
     exact⟨by rw[lists_differ (k:=k) (l:=l) (m:=m) (by rw[HX.out,HY.out];exact HE.out)];rfl,HBel.out.trans ⟨rfl,rfl,rfl,Nat.le_refl _,fun _ _=>rfl⟩⟩
   ·have hkn:k=n:=by omega
    have hd:decide (l=m)=true:=lists_end (k:=k) (by have:=HN.out;omega) (by have:=HN'.out;have:=HL.out;omega) HT.out
    have HD:Hid (decide (l=m)=true):=hd
    clear hkn hd
    go_wp2
    go_ret
    exact⟨by rw[HD.out];rfl,HBel.out⟩
 ·have hd:decide (l=m)=false:=by
   simp only[decide_eq_false_iff_not]
   rintro rfl
   exact hlen (HN.out.symm.trans HN'.out)
  rw[hd]
  have hne:((n:Int) != (n':Int))=true:=by simp;omega
  clear hlen hd
  go_enter Tryz.func161,Tryz.ntmps161
  go_wp2
  go_ret
  exact⟨rfl,Below.refl _ _⟩
set_option maxRecDepth 100000 in
set_option maxHeartbeats 8000000 in
theorem phis_any (F:FnD)(ba:Option Addr)(n bcap:Nat)(vals:Int)(T:Tab)(LB mb:Nat)(w:World)(hF:FnAt w (.agg #[.slice ba n bcap,.int .i64 vals]) F)(hN:F.blocks.length=n)(hS:FnShape F)(hL:LookAt w LB (.slice ba n bcap) vals T mb) :
  Calls Tryz.prog 106 #[.pointer (some ⟨LB,0,none⟩)] w fun e w'=>StepEnds (¬ArmsAll F) 4 w e w':=by
 have HF:Hid (FnAt w (.agg #[.slice ba n bcap,.int .i64 vals]) F):=hF
 have HN:Hid (F.blocks.length=n):=hN
 have HS:Hid (FnShape F):=hS
 have HL:Hid (LookAt w LB (.slice ba n bcap) vals T mb):=hL
 have c0:=hL.c0
 have hn16:n≤16:=by have:=hS.2.1;omega
 clear hF hS hL hN
 go_enter Tryz.func106,Tryz.ntmps106
 go_wp2_with fail
 clear c0
 go_loopw [13] (fun i wr=>∃k:Nat,k≤n∧i = .int .i64 (k:Int)∧Below w.heap.size w wr∧∀(b:Nat) (x:BlockD),b<k→F.blocks[b]? = some x→∀p∈x.phis,ArmsFit F b p) (fun i _=>n-(intOf i).toNat)
 case atStart=>exact⟨0,Nat.zero_le _,rfl,Below.refl _ _,fun b x hb=>absurd hb (by omega)⟩
 case round=>
  obtain⟨wq,hwq⟩:∃x,x=wr:=⟨_,rfl⟩
  subst hwq
  obtain⟨k,hk,rfl,hB,hok⟩:=hrel
  have HB:Hid (Below w.heap.size w wq):=hB
  have HOK:Hid (∀(b:Nat) (x:BlockD),b<k→F.blocks[b]? = some x→∀p∈x.phis,ArmsFit F b p):=hok
  clear hB hok
  by_cases hlt:(k:Int)<(n:Int)
  ·have hkn:k<n:=by omega
   obtain⟨x,hx⟩:∃x,F.blocks[k]? = some x:=⟨_,List.getElem?_eq_getElem (by have:=HN.out;omega)⟩
   have HX:Hid (F.blocks[k]? = some x):=hx
   obtain⟨b,off,rfl,hat⟩:=(HF.out.later HB.out).blockC HN.out hkn hx
   obtain⟨pv,lv,b0,b1,b2,b3,b4,b5,hps,hls⟩:=hat
   obtain⟨np,HNP⟩:∃n,Hid (x.phis.length=n):=⟨_,rfl⟩
   have hnp:np≤24:=by have:=(HS.out.2.2.2.2 k x hx).1;have:=HNP.out;omega
   have HPS:Hid (ListAt 0 2 (PhiAt 0) wq pv x.phis):=hps
   obtain⟨pa,pcap,rfl,hpm,_⟩:=hps
   rw[HNP.out] at b0 hpm HPS
   obtain⟨la,lcap,rfl,hlm,_⟩:=hls
   have l0:=(HL.out.keep HB.out).c0
   have l1:=(HL.out.keep HB.out).c1
   have hLB:LB<wq.heap.size:=(HL.out.keep HB.out).lt
   clear hx
   go_wp2_with fail
   obtain⟨w3,hw3⟩:∃W,wq.alloc (.cells #[.slice pa np pcap,.slice la x.list.length lcap,.int .i64 x.term.k,.int .i64 x.term.a,.int .i64 x.term.t,.int .i64 x.term.e] 44)=W:=⟨_,rfl⟩
   have X0:Hid (w3.cell? ⟨wq.heap.size,0,none⟩=some (.slice pa np pcap)):=by show _=_;rw[←hw3];simp[go_sem]
   have B3:Hid (Below wq.heap.size wq w3):=by show Below _ _ _;rw[←hw3];exact Bel.alloc _ _
   rw[hw3]
   clear hw3 b0 b1 b2 b3 b4 b5 l0 l1
   obtain⟨XB,hXB⟩:∃x,wq.heap.size=x:=⟨_,rfl⟩
   rw[hXB] at X0
   rw[hXB]
   clear hXB
   refine(impl_preds _ F k _ (HF.out.later (Bel.after HB.out B3.out))).mono ?_
   rintro e w4 ⟨qv,rfl,hq,hb4⟩
   have HE:Hid (predsOf F (k:Int)=predsN F (k:Int)):=predsOf_yes HS.out (by omega) (by have:=HN.out;omega)
   have HQ:Hid (IntsAt w4 qv (predsN F (k:Int))):=by show IntsAt _ _ _;rw[←HE.out];exact hq.at
   have B4:Hid (Below wq.heap.size wq w4):=Bel.after B3.out hb4
   have x0:=Bel.keeps hb4 X0.out
   clear hq hb4
   go_wp2_with fail
   clear x0
   go_loopw [27] (fun i wr=>∃g:Nat,g≤np∧i = .int .i64 (g:Int)∧Below w4.heap.size w4 wr∧∀(i:Nat) (p:PhiD),i<g→x.phis[i]? = some p→ArmsFit F k p) (fun i _=>np-(intOf i).toNat)
   case atStart=>exact⟨0,Nat.zero_le _,rfl,Below.refl _ _,fun i p hb=>absurd hb (by omega)⟩
   case round=>
    obtain⟨wg,hwq⟩:∃x,x=wr:=⟨_,rfl⟩
    subst hwq
    obtain⟨g,hg,rfl,hB,hok⟩:=hrel
    have HBG:Hid (Below w4.heap.size w4 wg):=hB
    have BQG:Hid (Below wq.heap.size wq wg):=Bel.after B4.out hB
    have BWG:Hid (Below w.heap.size w wg):=Bel.after HB.out BQG.out
    have HOKG:Hid (∀(i:Nat) (p:PhiD),i<g→x.phis[i]? = some p→ArmsFit F k p):=hok
    clear hB hok
    by_cases hltg:(g:Int)<(np:Int)
    ·obtain⟨p,hp⟩:∃p,x.phis[g]? = some p:=⟨_,List.getElem?_eq_getElem (by have:=HNP.out;omega)⟩
     have HPO:Hid (PhiOk (F.blocks.length:Int) F.values p):=(HS.out.2.2.2.2 k x HX.out).2.2.1 g p hp
     obtain⟨pb,poff,rfl,z1,av,z2,hav⟩:=listAt_at (HPS.out.keep (fun b o z hb h=>h.keep (Keeps.of_below BQG.out 0) hb)) hp
     have HP:Hid (x.phis[g]? = some p):=hp
     have HAV:Hid (ListAt 0 2 ArmAt wg av p.arms):=hav
     obtain⟨am,HAM⟩:∃q,Hid (p.arms.length=q):=⟨_,rfl⟩
     obtain⟨aa,acap,rfl,ham,_⟩:=hav
     rw[HAM.out] at z2 HAV ham
     obtain⟨dv,HDV⟩:∃q,Hid (p.d=q):=⟨_,rfl⟩
     rw[HDV.out] at z1
     clear hp
     go_wp2_with fail
     refine(fromsOf_any dv _ p.arms _ (HAV.out.keep (fun b o z hb h=>h.keep (Keeps.of_below (Bel.alloc _ _) 0) hb)) HPO.out.2.1).mono ?_
     rintro e w5 ⟨fv,rfl,hf,hb5⟩
     have B5:Hid (Below wg.heap.size wg w5):=Bel.after (Bel.alloc _ _) hb5
     have HFV:Hid (IntsAt w5 fv (sortI (fromsL p))):=hf.at
     have HQ5:Hid (IntsAt w5 qv (predsN F (k:Int))):=HQ.out.keep (Bel.after HBG.out B5.out)
     clear hf hb5 z1 z2
     go_wp2_with fail
     refine(sliceEqual_any fv qv (sortI (fromsL p)) (predsN F (k:Int)) _ HFV.out HQ5.out).mono ?_
     rintro e w6 ⟨rfl,b6⟩
     have B6:Hid (Below wg.heap.size wg w6):=Bel.after B5.out b6
     have HI:Hid (sortI (fromsL p)=predsN F (k:Int)↔ArmsFit F k p):=arms_fit HPO.out
     clear b6
     by_cases hK:sortI (fromsL p)=predsN F (k:Int)
     ·have HK:Hid (ArmsFit F k p):=HI.out.1 hK
      rw[decide_eq_true hK]
      clear hK
      go_wp2_with fail
      go_roundw
      case rel=>
       refine⟨g+1,by omega,by go_num,Bel.after HBG.out B6.out,fun i z hi hz=>?_⟩
       by_cases e:i=g
       ·subst e
        have e2:=HP.out.symm.trans hz
        cases e2
        exact HK.out
       ·exact HOKG.out i z (by omega) hz
      case measure=>simp[intOf];omega
     ·have HK:Hid (¬ArmsFit F k p):=fun h=>hK (HI.out.2 h)
      rw[decide_eq_false hK]
      clear hK
      go_wp2_with fail
      refine(fail_any _ _ _ _ _).mono ?_
      rintro e w7 ⟨rfl,b7⟩
      exact⟨rfl,.inr ⟨fun h=>HK.out (h k x HX.out p (List.mem_of_getElem? HP.out)),_,_,rfl⟩,Bel.after (Bel.after BWG.out B6.out) b7⟩
    ·go_wp2_with fail
     go_roundw
     case rel=>
      refine⟨k+1,by omega,by go_num,BWG.out,fun b2 x2 hb hx2 p hp=>?_⟩
      by_cases e:b2=k
      ·subst e
       have e2:=HX.out.symm.trans hx2
       cases e2
       obtain⟨i,hi2⟩:=List.getElem?_of_mem hp
       exact HOKG.out i p (by have:=(List.getElem?_eq_some_iff.1 hi2).1;have:=HNP.out;omega) hi2
      ·exact HOK.out b2 x2 (by omega) hx2 p hp
     case measure=>simp[intOf];omega
  ·go_wp2_with fail
   refine⟨rfl,_,results_none rfl _ _ _,.inl ⟨fun h=>h fun b x hx=>?_,_,rfl⟩,HB.out⟩
   exact HOK.out b x (by have:=(List.getElem?_eq_some_iff.1 hx).1;have:=HN.out;omega) hx
end Go.Proofs.YtfnilamkapabkaaGreatDoor
