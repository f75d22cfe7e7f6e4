/- The look, its steps: what is taken. The look, its steps: the arms of a phi. The look, its steps: what is taken, through the whole program. -/
import Derived.Test.YtfnilamkapabkaaGreatDoorKCkA
import Derived.Test.YtfnilamkapabkaaGreatDoorKIns
namespace Go.Proofs.YtfnilamkapabkaaGreatDoor
open Go.ChangeShapes Go.WideShapes Go.ChangeAt Go.RowKit
set_option linter.unusedVariables false
def AllKnown (F:FnD)(U:List Int)(bk:Nat)(pl:Int):Prop := ∀x∈U,Known F x bk pl
structure LookFull (w:World)(F:FnD)(LB mb:Nat)(ba:Option Addr)(n bcap:Nat)(vals:Int)(T:Tab):Prop where
 len:F.blocks.length=n
 shape:FnShape F
 once:MadeOnce F
 tab:T=fun b a=>domB F a b
 look:LookAt w LB (.slice ba n bcap) vals T mb
 made:MadeMap w mb (makesOf F)
 ins:∀m∈makesOf F,0≤m.2.1∧m.2.1<(n:Int)
theorem LookFull.keep {w w':World}{F:FnD}{LB mb:Nat}{ba:Option Addr}{n bcap:Nat}{vals:Int}{T:Tab}(h:LookFull w F LB mb ba n bcap vals T)(hb:Below w.heap.size w w'):LookFull w' F LB mb ba n bcap vals T:=by
 refine { h with look:=h.look.keep hb,made:=h.made.kept ?_ }
 obtain⟨es,ck,e⟩:=h.made.isMap
 exact hb.block mb (Array.getElem?_eq_some_iff.1 e).1
theorem ck_getD_mem {l:List Int}{i:Nat}(h:i<l.length):l.getD i 0∈l:=by
 rw[List.getD_eq_getElem?_getD,List.getElem?_eq_getElem h]
 exact List.getElem_mem h
set_option maxRecDepth 100000 in
set_option maxHeartbeats 8000000 in
theorem take_any (F:FnD)(ba:Option Addr)(n bcap:Nat)(vals:Int)(T:Tab)(LB mb:Nat)(uv:Value)(U:List Int)(bk:Nat)(pl:Int)(w:World)(hL:LookFull w F LB mb ba n bcap vals T)(hU:IntsAt w uv U)(hw:∀x∈U,(Lit.int .i64 x).wf=true)(hb:bk<n) :
  Calls Tryz.prog 164 #[.pointer (some ⟨LB,0,none⟩),uv,.agg #[.int .i64 (bk:Int),.int .i64 pl]] w fun e w'=>StepEnds (¬AllKnown F U bk pl) 6 w e w':=by
 have HL:Hid (LookFull w F LB mb ba n bcap vals T):=hL
 have HU:Hid (IntsAt w uv U):=hU
 have HW:Hid (∀x∈U,(Lit.int .i64 x).wf=true):=hw
 obtain⟨ul,HUL⟩:∃q,Hid (U.length=q):=⟨_,rfl⟩
 obtain⟨ua,ucap,rfl,hum,_⟩:=hU
 rw[HUL.out] at hum HU
 rw[HUL.out]
 clear hL hw
 go_enter Tryz.func164,Tryz.ntmps164
 go_wp2_with fail
 obtain⟨w1,hw1⟩:∃W,w.alloc (.cells #[.int .i64 (bk:Int),.int .i64 pl] 100)=W:=⟨_,rfl⟩
 have C0:Hid (w1.cell? ⟨w.heap.size,0,none⟩=some (.int .i64 (bk:Int))):=by show _=_;rw[←hw1];simp[go_sem]
 have C1:Hid (w1.cell? ⟨w.heap.size,1,none⟩=some (.int .i64 pl)):=by show _=_;rw[←hw1];simp[go_sem]
 have B1:Hid (Below w.heap.size w w1):=by show Below _ _ _;rw[←hw1];exact Bel.alloc _ _
 rw[hw1]
 clear hw1
 go_loopw [10] (fun i wr=>∃k:Nat,k≤ul∧i = .int .i64 (k:Int)∧Below w1.heap.size w1 wr∧∀j:Nat,j<k→Known F (U.getD j 0) bk pl) (fun i _=>ul-(intOf i).toNat)
 case atStart=>exact⟨0,Nat.zero_le _,rfl,Below.refl _ _,fun j hj=>absurd hj (by omega)⟩
 case round=>
  obtain⟨wq,hwq⟩:∃x,x=wr:=⟨_,rfl⟩
  subst hwq
  obtain⟨k,hk,rfl,hB,hok⟩:=hrel
  have HB:Hid (Below w1.heap.size w1 wq):=hB
  have HOK:Hid (∀j:Nat,j<k→Known F (U.getD j 0) bk pl):=hok
  have BQ:Hid (Below w.heap.size w wq):=Bel.after B1.out hB
  have c0:=Bel.keeps hB C0.out
  have c1:=Bel.keeps hB C1.out
  clear hB hok
  by_cases hlt:(k:Int)<(ul:Int)
  ·obtain⟨ub,uoff,rfl,uc⟩:=IntsAt.cells HU.out _ BQ.out k (by omega)
   obtain⟨xv,HXV⟩:∃q,Hid (U.getD k 0=q):=⟨_,rfl⟩
   rw[HXV.out] at uc
   have HM:Hid (xv∈U):=by show xv∈U;rw[←HXV.out];exact ck_getD_mem (by have:=HUL.out;omega)
   have LF:=HL.out.keep BQ.out
   have HLF:Hid (LookFull wq F LB mb ba n bcap vals T):=LF
   clear LF
   go_wp2_with fail
   refine(ahead_any F ba n bcap vals T LB mb xv bk pl _ HLF.out.len HLF.out.shape HLF.out.once HLF.out.tab HLF.out.look HLF.out.made (HW.out xv HM.out) hb HLF.out.ins).mono ?_
   rintro e w3 ⟨t,rfl,ht,b3⟩
   have B3:Hid (Below wq.heap.size wq w3):=b3
   clear b3 uc
   by_cases hK:Known F xv bk pl
   ·have et:=ht.2 hK
    subst et
    have HK:Hid (Known F xv bk pl):=hK
    clear ht hK c0 c1
    go_wp2_with fail
    go_roundw
    case rel=>
     refine⟨k+1,by omega,by go_num,Bel.after HB.out B3.out,fun j hj=>?_⟩
     by_cases e:j=k
     ·subst e
      rw[HXV.out]
      exact HK.out
     ·exact HOK.out j (by omega)
    case measure=>simp[intOf];omega
   ·have et:t=false:=by
     cases t
     ·rfl
     ·exact absurd (ht.1 rfl) hK
    subst et
    have HK:Hid (¬Known F xv bk pl):=hK
    clear ht hK
    replace c0:=Bel.keeps B3.out c0
    replace c1:=Bel.keeps B3.out c1
    go_wp2_with fail
    refine(fail_any _ _ _ _ _).mono ?_
    rintro e w5 ⟨rfl,b5⟩
    exact⟨rfl,.inr ⟨fun h=>HK.out (h xv HM.out),_,_,rfl⟩,Bel.after (Bel.after BQ.out B3.out) b5⟩
  ·go_wp2_with fail
   refine⟨rfl,_,results_none rfl _ _ _,.inl ⟨fun h=>h fun x hx=>?_,_,rfl⟩,BQ.out⟩
   obtain⟨i,hi,e⟩:=List.getElem_of_mem hx
   have h2:=HOK.out i (by have:=HUL.out;omega)
   rw[List.getD_eq_getElem?_getD,List.getElem?_eq_getElem hi] at h2
   simp at h2
   rw[←e]
   exact h2
def ArmsKnown (F:FnD)(arms:List ArmD):Prop := ∀a∈arms,Known F a.v a.fr.toNat (listLen F a.fr.toNat)
section
variable {P:Program} {ops:Array Oper} {Q:Exit→Act→World→Prop} {md:Region.Mode} {S:World→Prop}
theorem ckAnyH_oneK {i:Nat}{o:Oper}{fuel:Nat}{li:Array Bool}{a:Act}{w:World}(ho:ops[i]? = some o)(hg:o.guard=none)(hr:Region.ready md ops li = [i])
  (h:∀K:Act→World→Prop,(∀a' w',(S w'∧wpAnyH P md ops Q S fuel (li.setIfInBounds i true) a' w')→K a' w')→o.wp P a w K Q):wpAnyH P md ops Q S (fuel+1) li a w:=by
 refine wpAnyH_all hr (by simp) (fun j hj=>?_)
 have e:j=i:=by simpa using hj
 subst e
 unfold wpOp
 simp only[ho]
 rw[if_pos (by simp[Region.wanted,hg])]
 exact .inl (h _ (fun _ _ h=>h))
end
theorem wp_call_panics {P:Program}{Q:Exit→Act→World→Prop}{o:Oper}{a:Act}{w:World}{K:Act→World→Prop}{f:FuncId}{args:Array Value}{R:Ending→World→Prop}(he:(execOp a.eval o).run P w = .ok (.enter f args) w)(h:Calls P f args w R)
  (hR:∀e w',R e w'→∃ps,e = .panicked ps∧Q (.panic ps) a w'):o.wp P a w K Q:=by
 unfold Oper.wp
 rw[he]
 refine Calls.mono h (fun e w' hr=>?_)
 obtain⟨ps,rfl,hk⟩:=hR e w' hr
 exact hk
theorem step_yes {bad:Prop}{code:Int}{e:Ending}(h:(¬bad∧∃v,e = .returned v)∨(bad∧∃b p,e = .panicked (thrown code b p)))(hb:¬bad):∃v,e = .returned v:=h.elim (fun h=>h.2) (fun h=>absurd h.1 hb)
theorem step_no {bad:Prop}{code:Int}{e:Ending}(h:(¬bad∧∃v,e = .returned v)∨(bad∧∃b p,e = .panicked (thrown code b p)))(hb:bad):∃b p,e = .panicked (thrown code b p):=h.elim (fun h=>absurd hb h.1) (fun h=>h.2)
set_option maxRecDepth 100000 in
set_option maxHeartbeats 8000000 in
theorem arms_any (F:FnD)(ba:Option Addr)(n bcap:Nat)(vals:Int)(T:Tab)(LB mb:Nat)(d:Int)(av:Value)(arms:List ArmD)(w:World)(hF:FnAt w (.agg #[.slice ba n bcap,.int .i64 vals]) F)(hL:LookFull w F LB mb ba n bcap vals T)(hA:ListAt 0 2 ArmAt w av arms)(h16:arms.length≤16)
  (hok:ArmsOk (n:Int) F.values arms arms.length) :
  Calls Tryz.prog 163 #[.pointer (some ⟨LB,0,none⟩),.agg #[.int .i64 d,av]] w fun e w'=>StepEnds (¬ArmsKnown F arms) 6 w e w':=by
 have HF:Hid (FnAt w (.agg #[.slice ba n bcap,.int .i64 vals]) F):=hF
 have HL:Hid (LookFull w F LB mb ba n bcap vals T):=hL
 have HA:Hid (ListAt 0 2 ArmAt w av arms):=hA
 have HOKA:Hid (ArmsOk (n:Int) F.values arms arms.length):=hok
 obtain⟨m,HM⟩:∃q,Hid (arms.length=q):=⟨_,rfl⟩
 obtain⟨aa,acap,rfl,ham,_⟩:=hA
 rw[HM.out] at ham HA h16
 rw[HM.out]
 have hn16:n≤16:=by have:=hL.shape.2.1;have:=hL.len;omega
 clear hF hL hok
 go_enter Tryz.func163,Tryz.ntmps163
 go_wp2_with fail
 obtain⟨w1,hw1⟩:∃W,w.alloc (.cells #[.int .i64 d,.slice aa m acap] 74)=W:=⟨_,rfl⟩
 have B1:Hid (Below w.heap.size w w1):=by show Below _ _ _;rw[←hw1];exact Bel.alloc _ _
 rw[hw1]
 clear hw1
 go_loopw [9] (fun i wr=>∃k:Nat,k≤m∧i = .int .i64 (k:Int)∧Below w1.heap.size w1 wr∧∀(j:Nat) (a:ArmD),j<k→arms[j]? = some a→Known F a.v a.fr.toNat (listLen F a.fr.toNat)) (fun i _=>m-(intOf i).toNat)
 case atStart=>exact⟨0,Nat.zero_le _,rfl,Below.refl _ _,fun j a hj=>absurd hj (by omega)⟩
 case round=>
  obtain⟨wq,hwq⟩:∃x,x=wr:=⟨_,rfl⟩
  subst hwq
  obtain⟨k,hk,rfl,hB,hok⟩:=hrel
  have HB:Hid (Below w1.heap.size w1 wq):=hB
  have HOK:Hid (∀(j:Nat) (a:ArmD),j<k→arms[j]? = some a→Known F a.v a.fr.toNat (listLen F a.fr.toNat)):=hok
  have BQ:Hid (Below w.heap.size w wq):=Bel.after B1.out hB
  clear hB hok
  by_cases hlt:(k:Int)<(m:Int)
  ·obtain⟨y,hy⟩:∃y,arms[k]? = some y:=⟨_,List.getElem?_eq_getElem (by have:=HM.out;omega)⟩
   obtain⟨ab,aoff,rfl,r1,r2⟩:=listAt_at (HA.out.keep (fun b o z hb h=>h.keep (Keeps.of_below BQ.out 0) hb)) hy
   have HY:Hid (arms[k]? = some y):=hy
   obtain⟨f,hf,hfn⟩:∃f:Nat,y.fr=(f:Int)∧f<n:=by
    have h3:=(HOKA.out k y (by have:=HM.out;omega) hy).1
    simp[valIn] at h3
    exact⟨y.fr.toNat,by omega,by omega⟩
   have hfn2:(f:Int)<(n:Int):=by omega
   have HFR:Hid (y.fr.toNat=f):=by show _=_;omega
   rw[hf] at r1
   obtain⟨xv,HXV⟩:∃z,Hid (y.v=z):=⟨_,rfl⟩
   rw[HXV.out] at r2
   clear hy hf
   go_wp2_with fail
   obtain⟨w3,hw3⟩:∃W,wq.alloc (.cells #[.int .i64 (f:Int),.int .i64 xv] 146)=W:=⟨_,rfl⟩
   have y0:w3.cell? ⟨wq.heap.size,0,none⟩=some (.int .i64 (f:Int)):=by rw[←hw3];simp[go_sem]
   have y1:w3.cell? ⟨wq.heap.size,1,none⟩=some (.int .i64 xv):=by rw[←hw3];simp[go_sem]
   have B3:Hid (Below wq.heap.size wq w3):=by show Below _ _ _;rw[←hw3];exact Bel.alloc _ _
   have BW3:Hid (Below w.heap.size w w3):=Bel.after BQ.out B3.out
   rw[hw3]
   clear hw3 r1 r2
   obtain⟨YB,hYB⟩:∃x,wq.heap.size=x:=⟨_,rfl⟩
   rw[hYB] at y0 y1
   rw[hYB]
   clear hYB
   have HL3:Hid (LookFull w3 F LB mb ba n bcap vals T):=HL.out.keep BW3.out
   have c0:=HL3.out.look.c0
   obtain⟨x2,hx2⟩:∃x,F.blocks[f]? = some x:=⟨_,List.getElem?_eq_getElem (by have:=HL.out.len;omega)⟩
   obtain⟨ll,HLL⟩:∃z,Hid (x2.list.length=z):=⟨_,rfl⟩
   have HLF:Hid (listLen F f=(ll:Int)):=by show _=_;rw[←HLL.out];simp[listLen,hx2]
   obtain⟨b,off,rfl,hat⟩:=(HF.out.later BW3.out).blockC HL.out.len hfn hx2
   obtain⟨pv2,lv2,_,l1,_,_,_,_,_,hls2⟩:=hat
   obtain⟨la2,lcap2,rfl,hlm2,_⟩:=hls2
   rw[HLL.out] at l1 hlm2
   have HWF:Hid (∀z∈[xv],(Lit.int .i64 z).wf=true):=by
    intro z hz
    simp at hz
    subst hz
    have h3:=(HOKA.out k y (by have:=HM.out;omega) HY.out).2.1
    rw[HXV.out] at h3
    simp[valIn] at h3
    have h4:=HL.out.shape.2.2.2.1
    obtain⟨zn,rfl⟩:∃zn:Nat,z=(zn:Int):=⟨z.toNat,by omega⟩
    exact wf_small (by omega)
   clear hx2
   by_cases hK:Known F xv f (ll:Int)
   ·have HK:Hid (Known F xv f (ll:Int)):=hK
    clear hK
    go_region_held3 (fun w'=>w'.cell? ⟨YB,0,none⟩=some (.int .i64 (f:Int))∧w'.cell? ⟨YB,1,none⟩=some (.int .i64 xv)∧w'.cell? ⟨LB,0,none⟩=some (.slice (some ⟨b,off,none⟩) n bcap)∧w'.cell? ⟨b,off+f*6+1,none⟩=some (.slice la2 ll lcap2)) (first | exact⟨Bel.keeps B5.out y0,Bel.keeps B5.out y1,Bel.keeps B5.out c0,Bel.keeps B5.out l1⟩ | exact⟨Bel.keeps (Bel.alloc _ _) y0,Bel.keeps (Bel.alloc _ _) y1,Bel.keeps (Bel.alloc _ _) c0,Bel.keeps (Bel.alloc _ _) l1⟩ | go_keep) (first | (go_at_call 164;refine(take_any F (some ⟨b,off,none⟩) n bcap vals T LB mb _ [xv] f (ll:Int) _ (HL3.out.keep (Bel.after ((Below.refl _ _).drew) (Bel.alloc _ _))) (rowNew1 _ _ _ _ rfl).at HWF.out hfn).mono ?_;rintro e w5 ⟨hh,hb5⟩;have hh2:=step_yes hh (fun h=>h (by intro z hz;simp at hz;subst hz;exact HK.out));obtain⟨rv,rfl⟩:=hh2;have B5:Hid (Below w3.heap.size w3 w5):=Bel.after (Bel.after ((Below.refl _ _).drew) (Bel.alloc _ _)) hb5;clear hb5 hh))
    simp only[Exit.inBlock,Exit.then]
    go_at_K
    go_wp2_with fail
    go_roundw
    case rel=>
     refine⟨k+1,by omega,by go_num,Bel.after HB.out (Bel.after B3.out B5.out),fun j z hj hz=>?_⟩
     by_cases e:j=k
     ·subst e
      have e2:=HY.out.symm.trans hz
      cases e2
      rw[HFR.out,HXV.out,HLF.out]
      exact HK.out
     ·exact HOK.out j z (by omega) hz
    case measure=>simp[intOf];omega
   ·have HK:Hid (¬Known F xv f (ll:Int)):=hK
    clear hK
    refine wp_region_held_drew (S:=fun w'=>w'.cell? ⟨YB,0,none⟩=some (.int .i64 (f:Int))∧w'.cell? ⟨YB,1,none⟩=some (.int .i64 xv)∧w'.cell? ⟨LB,0,none⟩=some (.slice (some ⟨b,off,none⟩) n bcap)∧w'.cell? ⟨b,off+f*6+1,none⟩=some (.slice la2 ll lcap2)) (by kernel_rfl) ⟨y0,y1,c0,l1⟩ (fun hHeld=>?_)
    refine wpAnyH_take (i:=0) (oi:=⟨some 13,.move (.tmp 0),169,"l05_check.go:171",#[],none⟩) (v := ?_) rfl (by kernel_rfl) (by kernel_rfl) (by kernel_rfl) (fun _ _ _ h=>h) (Or.inl ⟨by rfl,?_⟩) (by assumption) ?_
    rotate_left
    ·intro w hSw
     (try dsimp only at hSw)
     go_simp
     (try with_reducible rfl)
    try simp only[Act.put,List.setIfInBounds_toArray,List.set_cons_zero,List.set_cons_succ]
    refine wpAnyH_take (i:=1) (oi:=⟨some 14,.fieldAddr 146 (.tmp 5) 1,0,"l05_check.go:171",#[],none⟩) (v := ?_) rfl (by kernel_rfl) (by kernel_rfl) (by kernel_rfl) (fun _ _ _ h=>h) (Or.inl ⟨by rfl,?_⟩) (by assumption) ?_
    rotate_left
    ·intro w hSw
     (try dsimp only at hSw)
     go_simp
     (try with_reducible rfl)
    try simp only[Act.put,List.setIfInBounds_toArray,List.set_cons_zero,List.set_cons_succ]
    refine wpAnyH_take (i:=2) (oi:=⟨some 15,.load 3 (.tmp 14),3,"l05_check.go:171",#[⟨1,.data⟩],none⟩) (v := ?_) rfl (by kernel_rfl) (by kernel_rfl) (by kernel_rfl) (fun _ _ _ h=>h) (Or.inl ⟨by rfl,?_⟩) (by assumption) ?_
    rotate_left
    ·intro w hSw
     (try dsimp only at hSw)
     go_simp
     (try with_reducible rfl)
    try simp only[Act.put,List.setIfInBounds_toArray,List.set_cons_zero,List.set_cons_succ]
    refine wpAnyH_take (i:=4) (oi:=⟨some 17,.fieldAddr 146 (.tmp 5) 0,0,"l05_check.go:171",#[],none⟩) (v := ?_) rfl (by kernel_rfl) (by kernel_rfl) (by kernel_rfl) (fun _ _ _ h=>h) (Or.inl ⟨by rfl,?_⟩) (by assumption) ?_
    rotate_left
    ·intro w hSw
     (try dsimp only at hSw)
     go_simp
     (try with_reducible rfl)
    try simp only[Act.put,List.setIfInBounds_toArray,List.set_cons_zero,List.set_cons_succ]
    refine wpAnyH_take (i:=5) (oi:=⟨some 18,.load 3 (.tmp 17),3,"l05_check.go:171",#[⟨4,.data⟩],none⟩) (v := ?_) rfl (by kernel_rfl) (by kernel_rfl) (by kernel_rfl) (fun _ _ _ h=>h) (Or.inl ⟨by rfl,?_⟩) (by assumption) ?_
    rotate_left
    ·intro w hSw
     (try dsimp only at hSw)
     go_simp
     (try with_reducible rfl)
    try simp only[Act.put,List.setIfInBounds_toArray,List.set_cons_zero,List.set_cons_succ]
    refine wpAnyH_take (i:=6) (oi:=⟨some 19,.move (.tmp 0),169,"l05_check.go:171",#[],none⟩) (v := ?_) rfl (by kernel_rfl) (by kernel_rfl) (by kernel_rfl) (fun _ _ _ h=>h) (Or.inl ⟨by rfl,?_⟩) (by assumption) ?_
    rotate_left
    ·intro w hSw
     (try dsimp only at hSw)
     go_simp
     (try with_reducible rfl)
    try simp only[Act.put,List.setIfInBounds_toArray,List.set_cons_zero,List.set_cons_succ]
    refine wpAnyH_take (i:=7) (oi:=⟨some 20,.nilCheck (.tmp 19),0,"l05_check.go:171",#[⟨6,.data⟩],none⟩) (v := ?_) rfl (by kernel_rfl) (by kernel_rfl) (by kernel_rfl) (fun _ _ _ h=>h) (Or.inl ⟨by rfl,?_⟩) (by assumption) ?_
    rotate_left
    ·intro w hSw
     (try dsimp only at hSw)
     go_simp
     (try with_reducible rfl)
    try simp only[Act.put,List.setIfInBounds_toArray,List.set_cons_zero,List.set_cons_succ]
    refine wpAnyH_take (i:=8) (oi:=⟨some 21,.fieldAddr 172 (.tmp 20) 0,0,"l05_check.go:171",#[⟨7,.data⟩],none⟩) (v := ?_) rfl (by kernel_rfl) (by kernel_rfl) (by kernel_rfl) (fun _ _ _ h=>h) (Or.inl ⟨by rfl,?_⟩) (by assumption) ?_
    rotate_left
    ·intro w hSw
     (try dsimp only at hSw)
     go_simp
     (try with_reducible rfl)
    try simp only[Act.put,List.setIfInBounds_toArray,List.set_cons_zero,List.set_cons_succ]
    refine wpAnyH_take (i:=9) (oi:=⟨some 22,.fieldAddr 26 (.tmp 21) 0,0,"l05_check.go:171",#[⟨8,.data⟩],none⟩) (v := ?_) rfl (by kernel_rfl) (by kernel_rfl) (by kernel_rfl) (fun _ _ _ h=>h) (Or.inl ⟨by rfl,?_⟩) (by assumption) ?_
    rotate_left
    ·intro w hSw
     (try dsimp only at hSw)
     go_simp
     (try with_reducible rfl)
    try simp only[Act.put,List.setIfInBounds_toArray,List.set_cons_zero,List.set_cons_succ]
    refine wpAnyH_take (i:=10) (oi:=⟨some 23,.load 24 (.tmp 22),24,"l05_check.go:171",#[⟨9,.data⟩],none⟩) (v := ?_) rfl (by kernel_rfl) (by kernel_rfl) (by kernel_rfl) (fun _ _ _ h=>h) (Or.inl ⟨by rfl,?_⟩) (by assumption) ?_
    rotate_left
    ·intro w hSw
     (try dsimp only at hSw)
     go_simp
     (try with_reducible rfl)
    try simp only[Act.put,List.setIfInBounds_toArray,List.set_cons_zero,List.set_cons_succ]
    refine wpAnyH_take (i:=11) (oi:=⟨some 24,.fieldAddr 146 (.tmp 5) 0,0,"l05_check.go:171",#[],none⟩) (v := ?_) rfl (by kernel_rfl) (by kernel_rfl) (by kernel_rfl) (fun _ _ _ h=>h) (Or.inl ⟨by rfl,?_⟩) (by assumption) ?_
    rotate_left
    ·intro w hSw
     (try dsimp only at hSw)
     go_simp
     (try with_reducible rfl)
    try simp only[Act.put,List.setIfInBounds_toArray,List.set_cons_zero,List.set_cons_succ]
    refine wpAnyH_take (i:=12) (oi:=⟨some 25,.load 3 (.tmp 24),3,"l05_check.go:171",#[⟨11,.data⟩],none⟩) (v := ?_) rfl (by kernel_rfl) (by kernel_rfl) (by kernel_rfl) (fun _ _ _ h=>h) (Or.inl ⟨by rfl,?_⟩) (by assumption) ?_
    rotate_left
    ·intro w hSw
     (try dsimp only at hSw)
     go_simp
     (try with_reducible rfl)
    try simp only[Act.put,List.setIfInBounds_toArray,List.set_cons_zero,List.set_cons_succ]
    refine wpAnyH_take (i:=13) (oi:=⟨some 26,.indexAddr 24 (.tmp 23) (.tmp 25),0,"l05_check.go:171",#[⟨10,.data⟩,⟨12,.data⟩],none⟩) (v := ?_) rfl (by kernel_rfl) (by kernel_rfl) (by kernel_rfl) (fun _ _ _ h=>h) (Or.inl ⟨by rfl,?_⟩) (by assumption) ?_
    rotate_left
    ·intro w hSw
     (try dsimp only at hSw)
     go_simp
     (try with_reducible rfl)
    try simp only[Act.put,List.setIfInBounds_toArray,List.set_cons_zero,List.set_cons_succ]
    refine wpAnyH_take (i:=14) (oi:=⟨some 27,.fieldAddr 44 (.tmp 26) 1,0,"l05_check.go:171",#[⟨13,.data⟩],none⟩) (v := ?_) rfl (by kernel_rfl) (by kernel_rfl) (by kernel_rfl) (fun _ _ _ h=>h) (Or.inl ⟨by rfl,?_⟩) (by assumption) ?_
    rotate_left
    ·intro w hSw
     (try dsimp only at hSw)
     go_simp
     (try with_reducible rfl)
    try simp only[Act.put,List.setIfInBounds_toArray,List.set_cons_zero,List.set_cons_succ]
    refine wpAnyH_take (i:=15) (oi:=⟨some 28,.load 40 (.tmp 27),40,"l05_check.go:171",#[⟨14,.data⟩],none⟩) (v := ?_) rfl (by kernel_rfl) (by kernel_rfl) (by kernel_rfl) (fun _ _ _ h=>h) (Or.inl ⟨by rfl,?_⟩) (by assumption) ?_
    rotate_left
    ·intro w hSw
     (try dsimp only at hSw)
     go_simp
     (try with_reducible rfl)
    try simp only[Act.put,List.setIfInBounds_toArray,List.set_cons_zero,List.set_cons_succ]
    refine wpAnyH_take (i:=16) (oi:=⟨some 29,.call ⟨.builtin .len,#[.tmp 28],#[40]⟩,3,"l05_check.go:171",#[⟨15,.data⟩],none⟩) (v := ?_) rfl (by kernel_rfl) (by kernel_rfl) (by kernel_rfl) (fun _ _ _ h=>h) (Or.inl ⟨by rfl,?_⟩) (by assumption) ?_
    rotate_left
    ·intro w hSw
     (try dsimp only at hSw)
     go_simp
     (try with_reducible rfl)
    try simp only[Act.put,List.setIfInBounds_toArray,List.set_cons_zero,List.set_cons_succ]
    refine wpAnyH_take (i:=17) (oi:=⟨some 30,.build 100 #[(0,.tmp 18),(1,.tmp 29)],100,"l05_check.go:171",#[⟨5,.data⟩,⟨16,.data⟩],none⟩) (v := ?_) rfl (by kernel_rfl) (by kernel_rfl) (by kernel_rfl) (fun _ _ _ h=>h) (Or.inl ⟨by rfl,?_⟩) (by assumption) ?_
    rotate_left
    ·intro w hSw
     (try dsimp only at hSw)
     go_simp
     (try with_reducible rfl)
    try simp only[Act.put,List.setIfInBounds_toArray,List.set_cons_zero,List.set_cons_succ]
    refine ckAnyH_oneK (i:=3) (o:=⟨some 16,.buildSlice 29 1 #[(0,.tmp 15)],29,"l05_check.go:171",#[⟨2,.data⟩],none⟩) rfl rfl (by kernel_rfl) (fun K9 hK9=>?_)
    go_simp
    refine hK9 _ _ ⟨⟨Bel.keeps (Bel.alloc _ _) y0,Bel.keeps (Bel.alloc _ _) y1,Bel.keeps (Bel.alloc _ _) c0,Bel.keeps (Bel.alloc _ _) l1⟩,?_⟩
    try simp only[Act.put,List.setIfInBounds_toArray,List.set_cons_zero,List.set_cons_succ]
    clear hK9
    refine ckAnyH_oneK (i:=18) (o:=⟨some 31,.call ⟨.value (.func 164),#[.tmp 13,.tmp 16,.tmp 30],#[169,29,100]⟩,0,"l05_check.go:171",#[⟨0,.data⟩,⟨3,.data⟩,⟨17,.data⟩],none⟩) rfl rfl (by kernel_rfl) (fun K9 hK9=>?_)
    refine wp_call_panics (f:=164) (args := #[.pointer (some ⟨LB,0,none⟩),.slice (some ⟨w3.heap.size,0,none⟩) 1 1,.agg #[.int .i64 (f:Int),.int .i64 (ll:Int)]]) (by go_simp) (take_any F (some ⟨b,off,none⟩) n bcap vals T LB mb _ [xv] f (ll:Int) _ (HL3.out.keep (Bel.after ((Below.refl _ _).drew) (Bel.alloc _ _))) (rowNew1 _ _ _ _ rfl).at HWF.out hfn) ?_
    rintro e w5 ⟨hh,hb5⟩
    have hh2:=step_no hh (fun h=>HK.out (h xv (by simp)))
    obtain⟨b9,p9,rfl⟩:=hh2
    have B5:Hid (Below w3.heap.size w3 w5):=Bel.after (Bel.after ((Below.refl _ _).drew) (Bel.alloc _ _)) hb5
    refine⟨_,rfl,?_⟩
    refine⟨rfl,.inr ⟨fun h=>HK.out ?_,_,_,rfl⟩,Bel.after BW3.out B5.out⟩
    have h2:=h y (List.mem_of_getElem? HY.out)
    rw[HFR.out,HXV.out,HLF.out] at h2
    exact h2
  ·go_wp2_with fail
   refine⟨rfl,_,results_none rfl _ _ _,.inl ⟨fun h=>h fun a ha=>?_,_,rfl⟩,BQ.out⟩
   obtain⟨i,hi⟩:=List.getElem?_of_mem ha
   exact HOK.out i a (by have:=(List.getElem?_eq_some_iff.1 hi).1;have:=HM.out;omega) hi
set_option maxRecDepth 100000 in
set_option maxHeartbeats 16000000 in
theorem taken_any (F:FnD)(ba:Option Addr)(n bcap:Nat)(vals:Int)(T:Tab)(LB mb:Nat)(w:World)(hF:FnAt w (.agg #[.slice ba n bcap,.int .i64 vals]) F)(hL:LookFull w F LB mb ba n bcap vals T)
  (hWU:∀(b:Nat) (x:BlockD),F.blocks[b]? = some x→(∀(k:Nat) (y:InsD),x.list[k]? = some y→∀v∈usesV y.op y.a y.b,(Lit.int .i64 v).wf=true)∧∀v∈endsV x.term.k x.term.a,(Lit.int .i64 v).wf=true) :
  Calls Tryz.prog 108 #[.pointer (some ⟨LB,0,none⟩)] w fun e w'=>StepEnds (¬TakenAll F) 6 w e w':=by
 have HF:Hid (FnAt w (.agg #[.slice ba n bcap,.int .i64 vals]) F):=hF
 have HL:Hid (LookFull w F LB mb ba n bcap vals T):=hL
 have HWU:Hid (∀(b:Nat) (x:BlockD),F.blocks[b]? = some x→(∀(k:Nat) (y:InsD),x.list[k]? = some y→∀v∈usesV y.op y.a y.b,(Lit.int .i64 v).wf=true)∧∀v∈endsV x.term.k x.term.a,(Lit.int .i64 v).wf=true):=hWU
 have HN:Hid (F.blocks.length=n):=hL.len
 have HS:Hid (FnShape F):=hL.shape
 have c0:=hL.look.c0
 have hn16:n≤16:=by have:=hL.shape.2.1;have:=hL.len;omega
 clear hF hL hWU
 go_enter Tryz.func108,Tryz.ntmps108
 go_wp2_with fail
 go_loopw [14] (fun i wr=>∃k:Nat,k≤n∧i = .int .i64 (k:Int)∧Below w.heap.size w wr∧∀(b:Nat) (x:BlockD),b<k→F.blocks[b]? = some x→TakenIn F b x) (fun i _=>n-(intOf i).toNat)
 case atStart=>exact⟨0,Nat.zero_le _,rfl,Below.refl _ _,fun b x hb=>absurd hb (by omega)⟩
 case round=>
  obtain⟨wq,hwq⟩:∃x,x=wr:=⟨_,rfl⟩
  subst hwq
  obtain⟨k,hk,rfl,hB,hok⟩:=hrel
  have HB:Hid (Below w.heap.size w wq):=hB
  have HOK:Hid (∀(b:Nat) (x:BlockD),b<k→F.blocks[b]? = some x→TakenIn F b x):=hok
  clear hB hok
  by_cases hlt:(k:Int)<(n:Int)
  ·have hkn:k<n:=by omega
   obtain⟨x,hx⟩:∃x,F.blocks[k]? = some x:=⟨_,List.getElem?_eq_getElem (by have:=HN.out;omega)⟩
   have HX:Hid (F.blocks[k]? = some x):=hx
   obtain⟨b,off,rfl,hat⟩:=(HF.out.later HB.out).blockC HN.out hkn hx
   obtain⟨pv,lv,b0,b1,b2,b3,b4,b5,hps,hls⟩:=hat
   obtain⟨np,HNP⟩:∃n,Hid (x.phis.length=n):=⟨_,rfl⟩
   obtain⟨nl,HNL⟩:∃n,Hid (x.list.length=n):=⟨_,rfl⟩
   have hnp:np≤24:=by have:=(HS.out.2.2.2.2 k x hx).1;have:=HNP.out;omega
   have hnl:nl≤24:=by have:=(HS.out.2.2.2.2 k x hx).2.1;have:=HNL.out;omega
   have HPS:Hid (ListAt 0 2 (PhiAt 0) wq pv x.phis):=hps
   obtain⟨pa,pcap,rfl,hpm,_⟩:=hps
   rw[HNP.out] at b0 hpm HPS
   have HLS:Hid (ListAt 0 5 InsAt wq lv x.list):=hls
   obtain⟨la,lcap,rfl,hlm,_⟩:=hls
   rw[HNL.out] at b1 hlm HLS
   obtain⟨tk,HTK⟩:∃q,Hid (x.term.k=q):=⟨_,rfl⟩
   obtain⟨ta,HTA⟩:∃q,Hid (x.term.a=q):=⟨_,rfl⟩
   obtain⟨tt,HTT⟩:∃q,Hid (x.term.t=q):=⟨_,rfl⟩
   obtain⟨te,HTE⟩:∃q,Hid (x.term.e=q):=⟨_,rfl⟩
   rw[HTK.out] at b2
   rw[HTA.out] at b3
   rw[HTT.out] at b4
   rw[HTE.out] at b5
   clear hx
   go_wp2_with fail
   obtain⟨w3,hw3⟩:∃W,wq.alloc (.cells #[.slice pa np pcap,.slice la nl lcap,.int .i64 tk,.int .i64 ta,.int .i64 tt,.int .i64 te] 44)=W:=⟨_,rfl⟩
   have X1:Hid (w3.cell? ⟨wq.heap.size,1,none⟩=some (.slice la nl lcap)):=by show _=_;rw[←hw3];simp[go_sem]
   have X2:Hid (w3.cell? ⟨wq.heap.size,2,none⟩=some (.int .i64 tk)):=by show _=_;rw[←hw3];simp[go_sem]
   have X3:Hid (w3.cell? ⟨wq.heap.size,3,none⟩=some (.int .i64 ta)):=by show _=_;rw[←hw3];simp[go_sem]
   have X4:Hid (w3.cell? ⟨wq.heap.size,4,none⟩=some (.int .i64 tt)):=by show _=_;rw[←hw3];simp[go_sem]
   have X5:Hid (w3.cell? ⟨wq.heap.size,5,none⟩=some (.int .i64 te)):=by show _=_;rw[←hw3];simp[go_sem]
   have B3q:Hid (Below wq.heap.size wq w3):=by show Below _ _ _;rw[←hw3];exact Bel.alloc _ _
   rw[hw3]
   clear hw3
   obtain⟨XB,hXB⟩:∃x,wq.heap.size=x:=⟨_,rfl⟩
   rw[hXB] at X1 X2 X3 X4 X5
   rw[hXB]
   clear hXB b0 b1 b2 b3 b4 b5
   go_loopw [22] (fun i wr=>∃g:Nat,g≤np∧i = .int .i64 (g:Int)∧Below w3.heap.size w3 wr∧∀(i:Nat) (p:PhiD),i<g→x.phis[i]? = some p→ArmsKnown F p.arms) (fun i _=>np-(intOf i).toNat)
   case atStart=>exact⟨0,Nat.zero_le _,rfl,Below.refl _ _,fun i p hb=>absurd hb (by omega)⟩
   case round=>
    obtain⟨wg,hwq⟩:∃x,x=wr:=⟨_,rfl⟩
    subst hwq
    obtain⟨g,hg,rfl,hB,hok⟩:=hrel
    have HBG:Hid (Below w3.heap.size w3 wg):=hB
    have BQG:Hid (Below wq.heap.size wq wg):=Bel.after B3q.out hB
    have BWG:Hid (Below w.heap.size w wg):=Bel.after HB.out BQG.out
    have HOKG:Hid (∀(i:Nat) (p:PhiD),i<g→x.phis[i]? = some p→ArmsKnown F p.arms):=hok
    clear hB hok
    by_cases hltg:(g:Int)<(np:Int)
    ·obtain⟨p,hp⟩:∃p,x.phis[g]? = some p:=⟨_,List.getElem?_eq_getElem (by have:=HNP.out;omega)⟩
     have HPO:Hid (PhiOk (F.blocks.length:Int) F.values p):=(HS.out.2.2.2.2 k x HX.out).2.2.1 g p hp
     obtain⟨pb,poff,rfl,z1,av,z2,hav⟩:=listAt_at (HPS.out.keep (fun b o z hb h=>h.keep (Keeps.of_below BQG.out 0) hb)) hp
     have HP:Hid (x.phis[g]? = some p):=hp
     have HAV:Hid (ListAt 0 2 ArmAt wg av p.arms):=hav
     obtain⟨aa,acap,rfl,ham,_⟩:=hav
     obtain⟨dv,HDV⟩:∃q,Hid (p.d=q):=⟨_,rfl⟩
     rw[HDV.out] at z1
     clear hp
     go_wp2_with fail
     refine(arms_any F _ n bcap vals T LB mb dv _ p.arms _ (HF.out.later (Bel.after BWG.out (Bel.alloc _ _))) (HL.out.keep (Bel.after BWG.out (Bel.alloc _ _))) (HAV.out.keep (fun b o z hb h=>h.keep (Keeps.of_below (Bel.alloc _ _) 0) hb)) HPO.out.2.1 (by have h:=HPO.out.2.2;rw[HN.out] at h;exact h)).mono ?_
     rintro e w5 ⟨hh,hb5⟩
     have B5:Hid (Below wg.heap.size wg w5):=Bel.after (Bel.alloc _ _) hb5
     clear hb5 z1 z2
     by_cases hK:ArmsKnown F p.arms
     ·have hh2:=step_yes hh (fun h=>h hK)
      obtain⟨rv,rfl⟩:=hh2
      have HK:Hid (ArmsKnown F p.arms):=hK
      clear hh hK
      go_wp2_with fail
      go_roundw
      case rel=>
       refine⟨g+1,by omega,by go_num,Bel.after HBG.out B5.out,fun i z hi hz=>?_⟩
       by_cases e:i=g
       ·subst e
        have e2:=HP.out.symm.trans hz
        cases e2
        exact HK.out
       ·exact HOKG.out i z (by omega) hz
      case measure=>simp[intOf];omega
     ·have hh2:=step_no hh hK
      obtain⟨b9,p9,rfl⟩:=hh2
      exact⟨rfl,.inr ⟨fun h=>hK (fun a ha=>(h k x HX.out).2.2 p (List.mem_of_getElem? HP.out) a ha),_,_,rfl⟩,Bel.after BWG.out B5.out⟩
    ·have HPH:Hid (∀p∈x.phis,∀a∈p.arms,Known F a.v a.fr.toNat (listLen F a.fr.toNat)):=by
      intro p hp
      obtain⟨i,hi2⟩:=List.getElem?_of_mem hp
      exact HOKG.out i p (by have:=(List.getElem?_eq_some_iff.1 hi2).1;have:=HNP.out;omega) hi2
     clear HOKG
     have s1:=Bel.keeps HBG.out X1.out
     go_wp2_with fail
     go_loopw [33] (fun i wr=>∃j:Nat,j≤nl∧i = .int .i64 (j:Int)∧Below wg.heap.size wg wr∧∀(i:Nat) (y:InsD),i<j→x.list[i]? = some y→AllKnown F (usesV y.op y.a y.b) k (i:Int)) (fun i _=>nl-(intOf i).toNat)
     case atStart=>exact⟨0,Nat.zero_le _,rfl,Below.refl _ _,fun i p hb=>absurd hb (by omega)⟩
     case round=>
      obtain⟨wj,hwq⟩:∃x,x=wr:=⟨_,rfl⟩
      subst hwq
      obtain⟨j,hj,rfl,hB,hok⟩:=hrel
      have HBJ:Hid (Below wg.heap.size wg wj):=hB
      have BQJ:Hid (Below wq.heap.size wq wj):=Bel.after BQG.out hB
      have BWJ:Hid (Below w.heap.size w wj):=Bel.after HB.out BQJ.out
      have B3J:Hid (Below w3.heap.size w3 wj):=Bel.after HBG.out hB
      have HOKJ:Hid (∀(i:Nat) (y:InsD),i<j→x.list[i]? = some y→AllKnown F (usesV y.op y.a y.b) k (i:Int)):=hok
      clear hB hok s1
      by_cases hltj:(j:Int)<(nl:Int)
      ·obtain⟨y,hy⟩:∃y,x.list[j]? = some y:=⟨_,List.getElem?_eq_getElem (by have:=HNL.out;omega)⟩
       obtain⟨lb,loff,rfl,q0,q1,q2,q3,q4⟩:=listAt_at (HLS.out.keep (fun b o z hb h=>h.keep (Keeps.of_below BQJ.out 0) hb)) hy
       have HY:Hid (x.list[j]? = some y):=hy
       clear hy
       go_wp2_with fail
       refine(impl_insUses _ _ _ _ _ _).mono ?_
       rintro e w4 ⟨uv,ub,rfl,hub,hrow,b4⟩
       have B4:Hid (Below wj.heap.size wj w4):=Bel.after (Bel.alloc _ _) b4
       have HRW:Hid (IntsAt w4 uv (usesV y.op y.a y.b)):=hrow.at
       clear hub hrow b4 q0 q1 q2 q3 q4
       go_wp2_with fail
       refine(take_any F _ n bcap vals T LB mb uv (usesV y.op y.a y.b) k (j:Int) _ (HL.out.keep (Bel.after BWJ.out B4.out)) HRW.out ((HWU.out k x HX.out).1 j y HY.out) hkn).mono ?_
       rintro e w5 ⟨hh,hb5⟩
       have B5:Hid (Below wj.heap.size wj w5):=Bel.after B4.out hb5
       clear hb5
       by_cases hK:AllKnown F (usesV y.op y.a y.b) k (j:Int)
       ·have hh2:=step_yes hh (fun h=>h hK)
        obtain⟨rv,rfl⟩:=hh2
        have HK:Hid (AllKnown F (usesV y.op y.a y.b) k (j:Int)):=hK
        clear hh hK
        go_wp2_with fail
        go_roundw
        case rel=>
         refine⟨j+1,by omega,by go_num,Bel.after HBJ.out B5.out,fun i z hi hz=>?_⟩
         by_cases e:i=j
         ·subst e
          have e2:=HY.out.symm.trans hz
          cases e2
          exact HK.out
         ·exact HOKJ.out i z (by omega) hz
        case measure=>simp[intOf];omega
       ·have hh2:=step_no hh hK
        obtain⟨b9,p9,rfl⟩:=hh2
        exact⟨rfl,.inr ⟨fun h=>hK ((h k x HX.out).1 j y HY.out),_,_,rfl⟩,Bel.after BWJ.out B5.out⟩
      ·have HI:Hid (∀(i:Nat) (y:InsD),x.list[i]? = some y→∀v∈usesV y.op y.a y.b,Known F v k (i:Int)):=fun i y hy=>HOKJ.out i y (by have:=(List.getElem?_eq_some_iff.1 hy).1;have:=HNL.out;omega) hy
       have s1:=Bel.keeps B3J.out X1.out
       have s2:=Bel.keeps B3J.out X2.out
       have s3:=Bel.keeps B3J.out X3.out
       have s4:=Bel.keeps B3J.out X4.out
       have s5:=Bel.keeps B3J.out X5.out
       have HWT:Hid (∀v∈endsV tk ta,(Lit.int .i64 v).wf=true):=by
        have h:=(HWU.out k x HX.out).2
        rw[HTK.out,HTA.out] at h
        exact h
       clear HOKJ
       go_wp2_with fail
       by_cases hK:AllKnown F (endsV tk ta) k (nl:Int)
       ·have HK:Hid (AllKnown F (endsV tk ta) k (nl:Int)):=hK
        clear hK
        go_region_held3 (fun w'=>w'.cell? ⟨XB,1,none⟩=some (.slice la nl lcap)∧w'.cell? ⟨XB,2,none⟩=some (.int .i64 tk)∧w'.cell? ⟨XB,3,none⟩=some (.int .i64 ta)∧w'.cell? ⟨XB,4,none⟩=some (.int .i64 tt)∧w'.cell? ⟨XB,5,none⟩=some (.int .i64 te)) (first | exact⟨Bel.keeps B5.out s1,Bel.keeps B5.out s2,Bel.keeps B5.out s3,Bel.keeps B5.out s4,Bel.keeps B5.out s5⟩ | exact⟨Bel.keeps B4.out s1,Bel.keeps B4.out s2,Bel.keeps B4.out s3,Bel.keeps B4.out s4,Bel.keeps B4.out s5⟩ | go_keep) (first | (go_at_call 147;refine(impl_termUses tk ta tt te _).mono ?_;rintro e w4 ⟨uv,ub,rfl,hub,hrow,hb4⟩;have B4:Hid (Below wj.heap.size wj w4):=Bel.after ((Below.refl _ _).drew) hb4;have HRW:Hid (IntsAt w4 uv (endsV tk ta)):=hrow.at;clear hub hrow hb4) | (go_at_call 164;refine(take_any F _ n bcap vals T LB mb _ (endsV tk ta) k (nl:Int) _ (HL.out.keep (Bel.after BWJ.out B4.out)) HRW.out HWT.out hkn).mono ?_;rintro e w5 ⟨hh,hb5⟩;have hh2:=step_yes hh (fun h=>h HK.out);obtain⟨rv,rfl⟩:=hh2;have B5:Hid (Below wj.heap.size wj w5):=Bel.after B4.out hb5;clear hb5 hh))
        simp only[Exit.inBlock,Exit.then]
        go_at_K
        go_wp2_with fail
        go_roundw
        case rel=>
         refine⟨k+1,by omega,by go_num,Bel.after BWJ.out B5.out,fun b2 x2 hb hx2=>?_⟩
         by_cases e:b2=k
         ·subst e
          have e2:=HX.out.symm.trans hx2
          cases e2
          refine⟨HI.out,?_,HPH.out⟩
          rw[HTK.out,HTA.out,HNL.out]
          exact HK.out
         ·exact HOK.out b2 x2 (by omega) hx2
        case measure=>simp[intOf];omega
       ·have HK:Hid (¬AllKnown F (endsV tk ta) k (nl:Int)):=hK
        clear hK
        refine wp_region_held_drew (S:=fun w'=>w'.cell? ⟨XB,1,none⟩=some (.slice la nl lcap)∧w'.cell? ⟨XB,2,none⟩=some (.int .i64 tk)∧w'.cell? ⟨XB,3,none⟩=some (.int .i64 ta)∧w'.cell? ⟨XB,4,none⟩=some (.int .i64 tt)∧w'.cell? ⟨XB,5,none⟩=some (.int .i64 te)) (by kernel_rfl) ⟨s1,s2,s3,s4,s5⟩ (fun hHeld=>?_)
        refine wpAnyH_take (i:=0) (oi:=⟨some 46,.move (.tmp 0),169,"l05_check.go:164",#[],none⟩) (v := ?_) rfl (by kernel_rfl) (by kernel_rfl) (by kernel_rfl) (fun _ _ _ h=>h) (Or.inl ⟨by rfl,?_⟩) (by assumption) ?_
        rotate_left
        ·intro w hSw
         (try dsimp only at hSw)
         go_simp
         (try with_reducible rfl)
        try simp only[Act.put,List.setIfInBounds_toArray,List.set_cons_zero,List.set_cons_succ]
        refine wpAnyH_take (i:=1) (oi:=⟨some 47,.fieldAddr 44 (.tmp 3) 2,0,"l05_check.go:164",#[],none⟩) (v := ?_) rfl (by kernel_rfl) (by kernel_rfl) (by kernel_rfl) (fun _ _ _ h=>h) (Or.inl ⟨by rfl,?_⟩) (by assumption) ?_
        rotate_left
        ·intro w hSw
         (try dsimp only at hSw)
         go_simp
         (try with_reducible rfl)
        try simp only[Act.put,List.setIfInBounds_toArray,List.set_cons_zero,List.set_cons_succ]
        refine wpAnyH_take (i:=2) (oi:=⟨some 48,.load 42 (.tmp 47),42,"l05_check.go:164",#[⟨1,.data⟩],none⟩) (v := ?_) rfl (by kernel_rfl) (by kernel_rfl) (by kernel_rfl) (fun _ _ _ h=>h) (Or.inl ⟨by rfl,?_⟩) (by assumption) ?_
        rotate_left
        ·intro w hSw
         (try dsimp only at hSw)
         go_simp
         (try with_reducible rfl)
        try simp only[Act.put,List.setIfInBounds_toArray,List.set_cons_zero,List.set_cons_succ]
        refine wpAnyH_take (i:=4) (oi:=⟨some 50,.move (.tmp 2),3,"l05_check.go:164",#[],none⟩) (v := ?_) rfl (by kernel_rfl) (by kernel_rfl) (by kernel_rfl) (fun _ _ _ h=>h) (Or.inl ⟨by rfl,?_⟩) (by assumption) ?_
        rotate_left
        ·intro w hSw
         (try dsimp only at hSw)
         go_simp
         (try with_reducible rfl)
        try simp only[Act.put,List.setIfInBounds_toArray,List.set_cons_zero,List.set_cons_succ]
        refine wpAnyH_take (i:=5) (oi:=⟨some 51,.fieldAddr 44 (.tmp 3) 1,0,"l05_check.go:164",#[],none⟩) (v := ?_) rfl (by kernel_rfl) (by kernel_rfl) (by kernel_rfl) (fun _ _ _ h=>h) (Or.inl ⟨by rfl,?_⟩) (by assumption) ?_
        rotate_left
        ·intro w hSw
         (try dsimp only at hSw)
         go_simp
         (try with_reducible rfl)
        try simp only[Act.put,List.setIfInBounds_toArray,List.set_cons_zero,List.set_cons_succ]
        refine wpAnyH_take (i:=6) (oi:=⟨some 52,.load 40 (.tmp 51),40,"l05_check.go:164",#[⟨5,.data⟩],none⟩) (v := ?_) rfl (by kernel_rfl) (by kernel_rfl) (by kernel_rfl) (fun _ _ _ h=>h) (Or.inl ⟨by rfl,?_⟩) (by assumption) ?_
        rotate_left
        ·intro w hSw
         (try dsimp only at hSw)
         go_simp
         (try with_reducible rfl)
        try simp only[Act.put,List.setIfInBounds_toArray,List.set_cons_zero,List.set_cons_succ]
        refine wpAnyH_take (i:=7) (oi:=⟨some 53,.call ⟨.builtin .len,#[.tmp 52],#[40]⟩,3,"l05_check.go:164",#[⟨6,.data⟩],none⟩) (v := ?_) rfl (by kernel_rfl) (by kernel_rfl) (by kernel_rfl) (fun _ _ _ h=>h) (Or.inl ⟨by rfl,?_⟩) (by assumption) ?_
        rotate_left
        ·intro w hSw
         (try dsimp only at hSw)
         go_simp
         (try with_reducible rfl)
        try simp only[Act.put,List.setIfInBounds_toArray,List.set_cons_zero,List.set_cons_succ]
        refine wpAnyH_take (i:=8) (oi:=⟨some 54,.build 100 #[(0,.tmp 50),(1,.tmp 53)],100,"l05_check.go:164",#[⟨4,.data⟩,⟨7,.data⟩],none⟩) (v := ?_) rfl (by kernel_rfl) (by kernel_rfl) (by kernel_rfl) (fun _ _ _ h=>h) (Or.inl ⟨by rfl,?_⟩) (by assumption) ?_
        rotate_left
        ·intro w hSw
         (try dsimp only at hSw)
         go_simp
         (try with_reducible rfl)
        try simp only[Act.put,List.setIfInBounds_toArray,List.set_cons_zero,List.set_cons_succ]
        refine ckAnyH_oneK (i:=3) (o:=⟨some 49,.call ⟨.value (.func 147),#[.tmp 48],#[42]⟩,29,"l05_check.go:164",#[⟨2,.data⟩],none⟩) rfl rfl (by kernel_rfl) (fun K9 hK9=>?_)
        refine wp_call_of (f:=147) (args := #[.agg #[.int .i64 tk,.int .i64 ta,.int .i64 tt,.int .i64 te]]) (by go_simp) (impl_termUses tk ta tt te _) ?_
        rintro e w4 ⟨uv,ub,rfl,hub,hrow,hb4⟩
        have B4:Hid (Below wj.heap.size wj w4):=Bel.after ((Below.refl _ _).drew) hb4
        have HRW:Hid (IntsAt w4 uv (endsV tk ta)):=hrow.at
        refine⟨_,rfl,?_⟩
        refine hK9 _ _ ⟨⟨Bel.keeps B4.out s1,Bel.keeps B4.out s2,Bel.keeps B4.out s3,Bel.keeps B4.out s4,Bel.keeps B4.out s5⟩,?_⟩
        try simp only[Act.put,List.setIfInBounds_toArray,List.set_cons_zero,List.set_cons_succ]
        clear hK9 hub hrow hb4
        refine ckAnyH_oneK (i:=9) (o:=⟨some 55,.call ⟨.value (.func 164),#[.tmp 46,.tmp 49,.tmp 54],#[169,29,100]⟩,0,"l05_check.go:164",#[⟨0,.data⟩,⟨3,.data⟩,⟨8,.data⟩,⟨3,.chain⟩],none⟩) rfl rfl (by kernel_rfl) (fun K9 hK9=>?_)
        refine wp_call_panics (f:=164) (args := #[.pointer (some ⟨LB,0,none⟩),uv,.agg #[.int .i64 (k:Int),.int .i64 (nl:Int)]]) (by go_simp) (take_any F _ n bcap vals T LB mb uv (endsV tk ta) k (nl:Int) _ (HL.out.keep (Bel.after BWJ.out B4.out)) HRW.out HWT.out hkn) ?_
        rintro e w5 ⟨hh,hb5⟩
        have hh2:=step_no hh HK.out
        obtain⟨b9,p9,rfl⟩:=hh2
        refine⟨_,rfl,?_⟩
        refine⟨rfl,.inr ⟨fun h=>HK.out ?_,_,_,rfl⟩,Bel.after BWJ.out (Bel.after B4.out hb5)⟩
        have h2:=(h k x HX.out).2.1
        rw[HTK.out,HTA.out,HNL.out] at h2
        exact h2
  ·go_wp2_with fail
   refine⟨rfl,_,results_none rfl _ _ _,.inl ⟨fun h=>h fun b x hx=>?_,_,rfl⟩,HB.out⟩
   exact HOK.out b x (by have:=(List.getElem?_eq_some_iff.1 hx).1;have:=HN.out;omega) hx
end Go.Proofs.YtfnilamkapabkaaGreatDoor
