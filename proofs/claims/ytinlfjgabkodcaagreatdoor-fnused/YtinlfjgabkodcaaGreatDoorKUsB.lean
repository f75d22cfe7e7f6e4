/- What is used, of the program: lists, ends, a round, all rounds. What is used, of the program: all rounds. -/
import Derived.Test.YtinlfjgabkodcaaGreatDoorKUsA
import Derived.Test.YtinlfjgabkodcaaGreatDoorKWalk
namespace Go.Proofs.YtinlfjgabkodcaaGreatDoor
open Go.ChangeShapes Go.WideShapes Go.ChangeAt Go.RowKit
set_option linter.unusedVariables false
set_option maxRecDepth 100000
theorem insTake_snoc (U:List Int)(l:List InsD)(y:InsD):insTake U (l ++ [y])=insStep (insTake U l) y:=by simp[insTake]
set_option maxHeartbeats 8000000 in
theorem takeList1_any (mb kb:Nat)(U:List Int)(B o:Nat)(x:BlockD)(w:World)(hm:MapU w mb U)(hk:w.cell? ⟨kb,0,none⟩=some (.map (some mb)))(hb:BlockAt 0 w B o x)(hw:WellB 80 x)(h24:x.list.length≤24) :
  Calls Tryz.prog 125 #[.pointer (some ⟨B,o,none⟩),.pointer (some ⟨kb,0,none⟩)] w fun e w'=>GivesU w mb (insTake U x.list) e w':=by
 have HM:Hid (MapU w mb U):=hm
 have HW:Hid (WellB 80 x):=hw
 have HK:Hid (w.cell? ⟨kb,0,none⟩=some (.map (some mb))):=hk
 obtain⟨pv,lv,b0,b1,_,_,_,_,_,hll⟩:=hb
 have HLL:Hid (ListAt 0 5 InsAt w lv x.list):=hll
 obtain⟨m,HL⟩:∃m,Hid (x.list.length=m):=⟨_,rfl⟩
 obtain⟨la,lcap,rfl,hlm,_⟩:=hll
 rw[HL.out] at hlm h24 HLL b1
 clear hm hk hw
 go_enter Tryz.func125,Tryz.ntmps125
 go_wp2_with fail
 go_loopw [10] (fun i wr=>∃k:Nat,k≤m∧i = .int .i64 k∧MapU wr mb (insTake U (x.list.take k))∧Fr mb w wr) (fun i _=>m-(intOf i).toNat)
 case atStart=>exact⟨0,Nat.zero_le _,rfl,by simpa [insTake] using HM.out,Fr.refl _ _⟩
 case round=>
  obtain⟨k,hk,rfl,hMp,hF⟩:=hrel
  obtain⟨V,HV⟩:∃V,Hid (insTake U (x.list.take k)=V):=⟨_,rfl⟩
  rw[HV.out] at hMp
  have HMP:Hid (MapU wr mb V):=hMp
  have HF:Hid (Fr mb w wr):=hF
  clear hMp hF
  by_cases hlt:(k:Int)<(m:Int)
  ·obtain⟨y,hy⟩:∃p,x.list[k]? = some p:=⟨_,List.getElem?_eq_getElem (by have:=HL.out;omega)⟩
   have HY:Hid (x.list[k]? = some y):=hy
   obtain⟨pb,off,rfl,x0,x1,x2,x3,x4⟩:=listAt_at (places_keep HLL.out (keeps_fr HF.out HM.out.isMap)) hy
   have HYM:Hid (y∈x.list):=List.mem_of_getElem? hy
   have HNX:Hid (insTake U (x.list.take (k+1))=insStep V y):=by
    show _=_
    rw[List.take_add_one,hy,Option.toList_some,insTake_snoc,HV.out]
   clear hy
   obtain⟨op,d,a,b,n⟩:=y
   dsimp only at x0 x1 x2 x3 x4
   have k0:=keeps_fr HF.out HM.out.isMap ⟨kb,0,none⟩ _ (Nat.zero_le _) HK.out
   have hkb:kb<wr.heap.size:=World.block_lt_of_cell? wr _ k0
   obtain⟨R,HR⟩:∃R,Hid (stayB V ⟨op,d,a,b,n⟩=R):=⟨_,rfl⟩
   go_wp2_with fail
   obtain⟨w2,hw2⟩:∃W,wr.alloc (.cells #[.int .i64 op,.int .i64 d,.int .i64 a,.int .i64 b,.int .i64 n] 37)=W:=⟨_,rfl⟩
   have B2:Hid (Below wr.heap.size wr w2):=by show Below _ _ _;rw[←hw2];exact Bel.alloc _ _
   obtain⟨X,HX⟩:∃X,Hid (wr.heap.size=X):=⟨_,rfl⟩
   have p0:w2.cell? ⟨X,0,none⟩=some (.int .i64 op):=by rw[←hw2,←HX.out];simp[go_sem]
   have p1:w2.cell? ⟨X,1,none⟩=some (.int .i64 d):=by rw[←hw2,←HX.out];simp[go_sem]
   have p2:w2.cell? ⟨X,2,none⟩=some (.int .i64 a):=by rw[←hw2,←HX.out];simp[go_sem]
   have p3:w2.cell? ⟨X,3,none⟩=some (.int .i64 b):=by rw[←hw2,←HX.out];simp[go_sem]
   have p4:w2.cell? ⟨X,4,none⟩=some (.int .i64 n):=by rw[←hw2,←HX.out];simp[go_sem]
   have k2:=Bel.keeps B2.out k0
   rw[hw2,HX.out]
   clear hw2 k0 x0 x1 x2 x3 x4
   refine(stays_any mb V op d a b n _ (HMP.out.kept B2.out) (fun h=>by have h9:=(HW.out.ins _ HYM.out).2.1;exact h9 (Or.elim h (fun h=>.inl h) (fun h=>.inr (.inl h))))).mono ?_
   rw[HR.out]
   rintro e w3 ⟨rfl,b3⟩
   have B3:Hid (Below wr.heap.size wr w3):=Bel.after B2.out b3
   replace p0:=Bel.keeps b3 p0
   replace p1:=Bel.keeps b3 p1
   replace p2:=Bel.keeps b3 p2
   replace p3:=Bel.keeps b3 p3
   replace p4:=Bel.keeps b3 p4
   replace k2:=Bel.keeps b3 k2
   clear b3
   cases R with
   | false=>
    go_wp2_with fail
    go_roundw
    case rel=>
     refine⟨k+1,by omega,by go_num,?_,HF.out.more B3.out⟩
     rw[HNX.out]
     unfold insStep
     rw[HR.out,if_neg (by simp)]
     exact HMP.out.kept B3.out
    case measure=>simp[intOf];omega
   | true=>
    go_wp2_with fail
    refine wp_noThrow (wp_region_held_drew (S:=fun w'=>w'.cell? ⟨kb,0,none⟩=some (.map (some mb))∧w'.cell? ⟨X,0,none⟩=some (.int .i64 op)∧w'.cell? ⟨X,1,none⟩=some (.int .i64 d)∧w'.cell? ⟨X,2,none⟩=some (.int .i64 a)∧w'.cell? ⟨X,3,none⟩=some (.int .i64 b)∧w'.cell? ⟨X,4,none⟩=some (.int .i64 n)) (by kernel_rfl) ⟨k2,p0,p1,p2,p3,p4⟩ (fun hHeld=>?_))
    have BD:Below w3.heap.size w3 w3.drew:=(Below.refl _ _).drew
    have hSS:∀w',Below w3.heap.size w3 w'→w'.cell? ⟨kb,0,none⟩=some (.map (some mb))∧w'.cell? ⟨X,0,none⟩=some (.int .i64 op)∧w'.cell? ⟨X,1,none⟩=some (.int .i64 d)∧w'.cell? ⟨X,2,none⟩=some (.int .i64 a)∧w'.cell? ⟨X,3,none⟩=some (.int .i64 b)∧w'.cell? ⟨X,4,none⟩=some (.int .i64 n):=fun w' h=>⟨Bel.keeps h k2,Bel.keeps h p0,Bel.keeps h p1,Bel.keeps h p2,Bel.keeps h p3,Bel.keeps h p4⟩
    refine wpAnyH_take (i:=0) (oi:=⟨some 17,.load 60 (.tmp 1),60,"l07_small.go:138",#[],none⟩) (v := ?_) rfl (by kernel_rfl) (by kernel_rfl) (by kernel_rfl) (fun _ _ _ h=>h) (Or.inl ⟨by rfl,?_⟩) (by assumption) ?_
    rotate_left
    ·intro w hSw
     (try dsimp only at hSw)
     go_simp
     (try with_reducible rfl)
    try simp only[Act.put,List.setIfInBounds_toArray,List.set_cons_zero,List.set_cons_succ]
    refine wpAnyH_take (i:=1) (oi:=⟨some 18,.load 37 (.tmp 4),37,"l07_small.go:138",#[],none⟩) (v := ?_) rfl (by kernel_rfl) (by kernel_rfl) (by kernel_rfl) (fun _ _ _ h=>h) (Or.inl ⟨by rfl,?_⟩) (by assumption) ?_
    rotate_left
    ·intro w hSw
     (try dsimp only at hSw)
     go_simp
     (try with_reducible rfl)
    try simp only[Act.put,List.setIfInBounds_toArray,List.set_cons_zero,List.set_cons_succ]
    clear hHeld
    generalize w3.drew=wD at BD ⊢
    have BDr:Hid (Below wr.heap.size wr wD):=Bel.after B3.out BD
    refine ckAnyH_oneK (i:=2) (o:=⟨some 19,.call ⟨.value (.func 12),#[.tmp 18],#[37]⟩,38,"l07_small.go:138",#[⟨1,.data⟩],none⟩) rfl rfl (by kernel_rfl) (fun K9 hK9=>?_)
    refine wp_call_of (f:=12) (args := #[.agg #[.int .i64 op,.int .i64 d,.int .i64 a,.int .i64 b,.int .i64 n]]) (by go_simp) (impl_insUses op d a b n _) ?_
    rintro e w4 ⟨uv,uk,rfl,_,hru,b4⟩
    have IU:Hid (IntsAt w4 uv (usesV op a b)):=hru.at
    have B4:Hid (Below wr.heap.size wr w4):=Bel.after BDr.out b4
    have BS4:Hid (Below w3.heap.size w3 w4):=Bel.after BD b4
    have hS4:=hSS w4 BS4.out
    clear hru b4
    refine⟨_,rfl,hK9 _ _ ⟨hS4,?_⟩⟩
    try simp only[Act.put,List.setIfInBounds_toArray,List.set_cons_zero,List.set_cons_succ]
    clear hK9 hS4
    refine ckAnyH_oneK (i:=3) (o:=⟨some 20,.call ⟨.value (.func 126),#[.tmp 17,.tmp 19],#[60,38]⟩,0,"l07_small.go:138",#[⟨0,.data⟩,⟨2,.data⟩,⟨2,.chain⟩],none⟩) rfl rfl (by kernel_rfl) (fun K9 hK9=>?_)
    refine wp_call_of (f:=126) (args := #[.map (some mb),uv]) (by go_simp) (factTake_any mb V uv (usesV op a b) _ (HMP.out.kept B4.out) IU.out (fun v hv=>(HW.out.ins _ HYM.out).1 v hv) (by unfold usesV;split <;> (try split) <;> simp)) ?_
    rintro e w5 ⟨⟨r,rfl⟩,f5,m5⟩
    have F5:Hid (Fr mb w w5):=(HF.out.more B4.out).trans f5
    have M5:Hid (MapU w5 mb (addAll V (usesV op a b))):=m5
    have hS5:w5.cell? ⟨kb,0,none⟩=some (.map (some mb))∧w5.cell? ⟨X,0,none⟩=some (.int .i64 op)∧w5.cell? ⟨X,1,none⟩=some (.int .i64 d)∧w5.cell? ⟨X,2,none⟩=some (.int .i64 a)∧w5.cell? ⟨X,3,none⟩=some (.int .i64 b)∧w5.cell? ⟨X,4,none⟩=some (.int .i64 n):=by
     have hkk:=keeps_fr f5 (HMP.out.kept B4.out).isMap
     obtain⟨s0,s1,s2,s3,s4,s5⟩:=hSS w4 BS4.out
     exact⟨hkk _ _ (Nat.zero_le _) s0,hkk _ _ (Nat.zero_le _) s1,hkk _ _ (Nat.zero_le _) s2,hkk _ _ (Nat.zero_le _) s3,hkk _ _ (Nat.zero_le _) s4,hkk _ _ (Nat.zero_le _) s5⟩
    clear f5 m5
    refine⟨_,rfl,hK9 _ _ ⟨hS5,?_⟩⟩
    try simp only[Act.put,List.setIfInBounds_toArray,List.set_cons_zero,List.set_cons_succ]
    clear hK9 hS5 hSS
    refine wpAnyH_done (by kernel_rfl) ?_ _
    simp only[noThrow,Exit.inBlock,Exit.then]
    go_at_K
    go_wp2_with fail
    go_roundw
    case rel=>
     refine⟨k+1,by omega,by go_num,?_,F5.out⟩
     rw[HNX.out]
     unfold insStep
     rw[HR.out,if_pos rfl]
     exact M5.out
    case measure=>simp[intOf];omega
  ·have hkm:k=m:=by omega
   subst hkm
   go_wp2_with fail
   go_end0
   refine⟨⟨_,rfl⟩,HF.out,?_⟩
   have h9:=HMP.out
   rw[←HV.out,List.take_of_length_le (by have:=HL.out;omega)] at h9
   exact h9
set_option maxHeartbeats 4000000 in
theorem takeTerm1_any (mb kb:Nat)(U:List Int)(B o:Nat)(x:BlockD)(w:World)(hm:MapU w mb U)(hk:w.cell? ⟨kb,0,none⟩=some (.map (some mb)))(hb:BlockAt 0 w B o x)(hw:WellB 80 x) :
  Calls Tryz.prog 127 #[.pointer (some ⟨B,o,none⟩),.pointer (some ⟨kb,0,none⟩)] w fun e w'=>GivesU w mb (addAll U (endsV x.term.k x.term.a)) e w':=by
 have HM:Hid (MapU w mb U):=hm
 have HW:Hid (WellB 80 x):=hw
 obtain⟨pv,lv,b0,b1,t0,t1,t2,t3,_,_⟩:=hb
 obtain⟨tk,HTK⟩:∃q,Hid (x.term.k=q):=⟨_,rfl⟩
 obtain⟨ta,HTA⟩:∃q,Hid (x.term.a=q):=⟨_,rfl⟩
 obtain⟨tt,HTT⟩:∃q,Hid (x.term.t=q):=⟨_,rfl⟩
 obtain⟨te,HTE⟩:∃q,Hid (x.term.e=q):=⟨_,rfl⟩
 rw[HTK.out] at t0 ⊢
 rw[HTA.out] at t1 ⊢
 rw[HTT.out] at t2
 rw[HTE.out] at t3
 have HEN:Hid (∀v∈endsV tk ta,0≤v∧v<80):=by
  have h9:=hw.fin
  rw[HTK.out,HTA.out] at h9
  exact h9
 clear hm hw b0 b1
 go_enter Tryz.func127,Tryz.ntmps127
 refine wp_noThrow (wp_region_held_drew (S:=fun w'=>w'.cell? ⟨kb,0,none⟩=some (.map (some mb))∧w'.cell? ⟨B,o+2,none⟩=some (.int .i64 tk)∧w'.cell? ⟨B,o+3,none⟩=some (.int .i64 ta)∧w'.cell? ⟨B,o+4,none⟩=some (.int .i64 tt)∧w'.cell? ⟨B,o+5,none⟩=some (.int .i64 te)) (by kernel_rfl) ⟨hk,t0,t1,t2,t3⟩ (fun hHeld=>?_))
 have BD:Below w.heap.size w w.drew:=(Below.refl _ _).drew
 have hSS:∀w',Below w.heap.size w w'→w'.cell? ⟨kb,0,none⟩=some (.map (some mb))∧w'.cell? ⟨B,o+2,none⟩=some (.int .i64 tk)∧w'.cell? ⟨B,o+3,none⟩=some (.int .i64 ta)∧w'.cell? ⟨B,o+4,none⟩=some (.int .i64 tt)∧w'.cell? ⟨B,o+5,none⟩=some (.int .i64 te):=fun w' h=>⟨Bel.keeps h hk,Bel.keeps h t0,Bel.keeps h t1,Bel.keeps h t2,Bel.keeps h t3⟩
 refine wpAnyH_take (i:=0) (oi:=⟨some 3,.load 60 (.tmp 1),60,"l07_small.go:145",#[],none⟩) (v := ?_) rfl (by kernel_rfl) (by kernel_rfl) (by kernel_rfl) (fun _ _ _ h=>h) (Or.inl ⟨by rfl,?_⟩) (by assumption) ?_
 rotate_left
 ·intro w hSw
  (try dsimp only at hSw)
  go_simp
  (try with_reducible rfl)
 try simp only[Act.put,List.setIfInBounds_toArray,List.set_cons_zero,List.set_cons_succ]
 refine wpAnyH_take (i:=1) (oi:=⟨some 4,.move (.tmp 0),157,"l07_small.go:145",#[],none⟩) (v := ?_) rfl (by kernel_rfl) (by kernel_rfl) (by kernel_rfl) (fun _ _ _ h=>h) (Or.inl ⟨by rfl,?_⟩) (by assumption) ?_
 rotate_left
 ·intro w hSw
  (try dsimp only at hSw)
  go_simp
  (try with_reducible rfl)
 try simp only[Act.put,List.setIfInBounds_toArray,List.set_cons_zero,List.set_cons_succ]
 refine wpAnyH_take (i:=2) (oi:=⟨some 5,.nilCheck (.tmp 4),0,"l07_small.go:145",#[⟨1,.data⟩],none⟩) (v := ?_) rfl (by kernel_rfl) (by kernel_rfl) (by kernel_rfl) (fun _ _ _ h=>h) (Or.inl ⟨by rfl,?_⟩) (by assumption) ?_
 rotate_left
 ·intro w hSw
  (try dsimp only at hSw)
  go_simp
  (try with_reducible rfl)
 try simp only[Act.put,List.setIfInBounds_toArray,List.set_cons_zero,List.set_cons_succ]
 refine wpAnyH_take (i:=3) (oi:=⟨some 6,.fieldAddr 35 (.tmp 5) 2,0,"l07_small.go:145",#[⟨2,.data⟩],none⟩) (v := ?_) rfl (by kernel_rfl) (by kernel_rfl) (by kernel_rfl) (fun _ _ _ h=>h) (Or.inl ⟨by rfl,?_⟩) (by assumption) ?_
 rotate_left
 ·intro w hSw
  (try dsimp only at hSw)
  go_simp
  (try with_reducible rfl)
 try simp only[Act.put,List.setIfInBounds_toArray,List.set_cons_zero,List.set_cons_succ]
 refine wpAnyH_take (i:=4) (oi:=⟨some 7,.load 33 (.tmp 6),33,"l07_small.go:145",#[⟨3,.data⟩],none⟩) (v := ?_) rfl (by kernel_rfl) (by kernel_rfl) (by kernel_rfl) (fun _ _ _ h=>h) (Or.inl ⟨by rfl,?_⟩) (by assumption) ?_
 rotate_left
 ·intro w hSw
  (try dsimp only at hSw)
  go_simp
  (try with_reducible rfl)
 try simp only[Act.put,List.setIfInBounds_toArray,List.set_cons_zero,List.set_cons_succ]
 clear hHeld
 generalize w.drew=wD at BD ⊢
 refine ckAnyH_oneK (i:=5) (o:=⟨some 8,.call ⟨.value (.func 14),#[.tmp 7],#[33]⟩,38,"l07_small.go:145",#[⟨4,.data⟩],none⟩) rfl rfl (by kernel_rfl) (fun K9 hK9=>?_)
 refine wp_call_of (f:=14) (args := #[.agg #[.int .i64 tk,.int .i64 ta,.int .i64 tt,.int .i64 te]]) (by go_simp) (impl_termUses tk ta tt te _) ?_
 rintro e w4 ⟨uv,uk,rfl,_,hru,b4⟩
 have IU:Hid (IntsAt w4 uv (endsV tk ta)):=hru.at
 have BS4:Hid (Below w.heap.size w w4):=Bel.after BD b4
 have hS4:=hSS w4 BS4.out
 clear hru b4
 refine⟨_,rfl,hK9 _ _ ⟨hS4,?_⟩⟩
 try simp only[Act.put,List.setIfInBounds_toArray,List.set_cons_zero,List.set_cons_succ]
 clear hK9
 refine ckAnyH_oneK (i:=6) (o:=⟨some 9,.call ⟨.value (.func 126),#[.tmp 3,.tmp 8],#[60,38]⟩,0,"l07_small.go:145",#[⟨0,.data⟩,⟨5,.data⟩,⟨5,.chain⟩],none⟩) rfl rfl (by kernel_rfl) (fun K9 hK9=>?_)
 refine wp_call_of (f:=126) (args := #[.map (some mb),uv]) (by go_simp) (factTake_any mb U uv (endsV tk ta) _ (HM.out.kept BS4.out) IU.out HEN.out (by unfold endsV;split <;> simp)) ?_
 rintro e w5 ⟨⟨r,rfl⟩,f5,m5⟩
 have F5:Hid (Fr mb w w5):=(Fr.ofBelow BS4.out).trans f5
 have M5:Hid (MapU w5 mb (addAll U (endsV tk ta))):=m5
 have hS5:w5.cell? ⟨kb,0,none⟩=some (.map (some mb))∧w5.cell? ⟨B,o+2,none⟩=some (.int .i64 tk)∧w5.cell? ⟨B,o+3,none⟩=some (.int .i64 ta)∧w5.cell? ⟨B,o+4,none⟩=some (.int .i64 tt)∧w5.cell? ⟨B,o+5,none⟩=some (.int .i64 te):=by
  have hkk:=keeps_fr f5 (HM.out.kept BS4.out).isMap
  obtain⟨s0,s1,s2,s3,s4⟩:=hS4
  exact⟨hkk _ _ (Nat.zero_le _) s0,hkk _ _ (Nat.zero_le _) s1,hkk _ _ (Nat.zero_le _) s2,hkk _ _ (Nat.zero_le _) s3,hkk _ _ (Nat.zero_le _) s4⟩
 clear f5 m5 hS4
 refine⟨_,rfl,hK9 _ _ ⟨hS5,?_⟩⟩
 try simp only[Act.put,List.setIfInBounds_toArray,List.set_cons_zero,List.set_cons_succ]
 clear hK9 hS5 hSS
 refine wpAnyH_done (by kernel_rfl) ?_ _
 simp only[noThrow]
 go_end0
 exact⟨⟨_,rfl⟩,F5.out,M5.out⟩
set_option maxRecDepth 100000
theorem takePhis_any (mb:Nat)(w:World) :
  Calls Tryz.prog 64 #[.map (some mb)] w fun e w'=>e = .returned (.func (Fn.func 123) #[] #[.pointer (some ⟨w.heap.size,0,none⟩)])∧w'=w.alloc (.cells #[.map (some mb)] 60):=by
 go_enter Tryz.func64,Tryz.ntmps64
 go_wp2_with fail
 go_ret
 exact⟨rfl,rfl⟩
theorem takeList_any (mb:Nat)(w:World) :
  Calls Tryz.prog 65 #[.map (some mb)] w fun e w'=>e = .returned (.func (Fn.func 125) #[] #[.pointer (some ⟨w.heap.size,0,none⟩)])∧w'=w.alloc (.cells #[.map (some mb)] 60):=by
 go_enter Tryz.func65,Tryz.ntmps65
 go_wp2_with fail
 go_ret
 exact⟨rfl,rfl⟩
theorem takeTerm_any (mb:Nat)(w:World) :
  Calls Tryz.prog 66 #[.map (some mb)] w fun e w'=>e = .returned (.func (Fn.func 127) #[] #[.pointer (some ⟨w.heap.size,0,none⟩)])∧w'=w.alloc (.cells #[.map (some mb)] 60):=by
 go_enter Tryz.func66,Tryz.ntmps66
 go_wp2_with fail
 go_ret
 exact⟨rfl,rfl⟩
theorem WellB.to80 {V:Int}{x:BlockD}(h:WellB V x):WellB 80 x :=
 ⟨Int.le_refl _,fun p hp=>⟨h.low (h.phis p hp).1,fun a ha=>h.low ((h.phis p hp).2 a ha)⟩,fun y hy=>⟨fun v hv=>h.low ((h.ins y hy).1 v hv),fun e=>h.low ((h.ins y hy).2.1 e),(h.ins y hy).2.2⟩,h.nocopy,fun v hv=>h.low (h.fin v hv)⟩
theorem order_in {F:FnD}(h:FnShape F):∀b∈orderOf F,0≤b∧b<(F.blocks.length:Int):=by
 rw[orderOf_yes h]
 intro b hb
 exact(wayOf_len h).2.2 b (by simpa using hb)
theorem order_all {F:FnD}(h:FnShape F)(ha:AllReached F):∀b,b<F.blocks.length→(b:Int)∈orderOf F:=by
 intro b hb
 have h1:=orderB_mem h b
 have h2:reaB F b=true:=by simp[reaB,ha b hb]
 rw[h2] at h1
 simpa using h1
structure PassesAt (w:World)(g mb k1 k2 k3:Nat):Prop where
 c0:w.cell? ⟨g,0,none⟩=some (.func (Fn.func 123) #[] #[.pointer (some ⟨k1,0,none⟩)])
 c1:w.cell? ⟨g,1,none⟩=some (.func (Fn.func 125) #[] #[.pointer (some ⟨k2,0,none⟩)])
 c2:w.cell? ⟨g,2,none⟩=some (.func (Fn.func 127) #[] #[.pointer (some ⟨k3,0,none⟩)])
 m1:w.cell? ⟨k1,0,none⟩=some (.map (some mb))
 m2:w.cell? ⟨k2,0,none⟩=some (.map (some mb))
 m3:w.cell? ⟨k3,0,none⟩=some (.map (some mb))
theorem PassesAt.keep {w w':World}{g mb k1 k2 k3:Nat}(h:PassesAt w g mb k1 k2 k3)(hk:Keeps 0 w w'):PassesAt w' g mb k1 k2 k3 :=
 ⟨hk _ _ (Nat.zero_le _) h.c0,hk _ _ (Nat.zero_le _) h.c1,hk _ _ (Nat.zero_le _) h.c2,hk _ _ (Nat.zero_le _) h.m1,hk _ _ (Nat.zero_le _) h.m2,hk _ _ (Nat.zero_le _) h.m3⟩
def passJ (U:List Int)(x:BlockD):Nat→List Int
 | 0=>U
 | 1=>phisTake U x.phis
 | 2=>insTake (phisTake U x.phis) x.list
 | _=>passB U x
theorem roundOf_snoc (F:FnD)(l:List Int)(b:Int)(U:List Int):roundOf F (l ++ [b]) U=passN F (roundOf F l U) b:=by simp[roundOf]
set_option maxHeartbeats 8000000 in
theorem passAll_any (v:Value)(F:FnD)(g mb k1 k2 k3:Nat)(U:List Int)(w:World)(hF:FnAt w v F)(hs:FnShape F)(hc:¬CopyIn F)(hm:MapU w mb U)(hp:PassesAt w g mb k1 k2 k3) :
  Calls Tryz.prog 48 #[v,.slice (some ⟨g,0,none⟩) 3 3] w fun e w'=>GivesU w mb (roundOf F (orderOf F) U) e w':=by
 have HF:Hid (FnAt w v F):=hF
 have HS:Hid (FnShape F):=hs
 have HCP:Hid (¬CopyIn F):=hc
 have HM:Hid (MapU w mb U):=hm
 have HP:Hid (PassesAt w g mb k1 k2 k3):=hp
 obtain⟨n,HN⟩:∃n,Hid (F.blocks.length=n):=⟨_,rfl⟩
 obtain⟨vals,HVL⟩:∃x,Hid (F.values=x):=⟨_,rfl⟩
 obtain⟨ba,bcap,rfl⟩:=hF.out HN.out HVL.out
 clear hF hs hc hm hp
 go_enter Tryz.func48,Tryz.ntmps48
 go_wp2_with fail
 obtain⟨w1,hw1⟩:∃W,w.alloc (.cells #[.slice ba n bcap,.int .i64 vals] 26)=W:=⟨_,rfl⟩
 obtain⟨X,HX⟩:∃X,Hid (w.heap.size=X):=⟨_,rfl⟩
 have B1:Hid (Below w.heap.size w w1):=by show Below _ _ _;rw[←hw1];exact Bel.alloc _ _
 have HX0:Hid (w1.cell? ⟨X,0,none⟩=some (.slice ba n bcap)):=by show _=_;rw[←hw1,←HX.out];simp[go_sem]
 rw[hw1,HX.out]
 clear hw1
 refine(impl_order _ F _ (HF.out.later B1.out)).mono ?_
 rintro e w2 ⟨ov,rfl,oo,b2⟩
 have OO:Hid (OwnInts w2 w1.heap.size ov (orderOf F)):=oo
 obtain⟨ol,HOL⟩:∃q,Hid ((orderOf F).length=q):=⟨_,rfl⟩
 obtain⟨oa,ocap,rfl,_⟩:=oo.row
 rw[HOL.out] at OO ⊢
 have B2:Hid (Below w.heap.size w w2):=Bel.after B1.out b2
 have X2:Hid (w2.cell? ⟨X,0,none⟩=some (.slice ba n bcap)):=Bel.keeps b2 HX0.out
 have hol:ol≤100:=by rw[←HOL.out];exact orderOf_small F
 clear oo b2
 go_wp2_with fail
 go_loopw [11] (fun i wr=>∃k:Nat,k≤ol∧i = .int .i64 k∧MapU wr mb (roundOf F ((orderOf F).take k) U)∧Fr mb w2 wr) (fun i _=>ol-(intOf i).toNat)
 case atStart=>exact⟨0,Nat.zero_le _,rfl,by simpa [roundOf] using HM.out.kept B2.out,Fr.refl _ _⟩
 case round=>
  obtain⟨wo,hwo⟩:∃x,x=wr:=⟨_,rfl⟩
  subst hwo
  obtain⟨k,hk,rfl,hMp,hFr⟩:=hrel
  obtain⟨V,HV⟩:∃V,Hid (roundOf F ((orderOf F).take k) U=V):=⟨_,rfl⟩
  rw[HV.out] at hMp
  have HMP:Hid (MapU wo mb V):=hMp
  have HFR:Hid (Fr mb w2 wo):=hFr
  have IM2:Hid (∃es ck,w2.heap[mb]? = some (.map es ck)):=(HM.out.kept B2.out).isMap
  clear hMp hFr
  by_cases hlt:(k:Int)<(ol:Int)
  ·obtain⟨b,hb⟩:∃b,(orderOf F)[k]? = some b:=⟨_,List.getElem?_eq_getElem (by have:=HOL.out;omega)⟩
   obtain⟨hb0,hbn⟩:=order_in HS.out b (List.mem_of_getElem? hb)
   obtain⟨bn,rfl⟩:=Int.eq_ofNat_of_zero_le hb0
   have hbn2:bn<n:=by have:=HN.out;omega
   obtain⟨x,hx⟩:∃x,F.blocks[bn]? = some x:=⟨_,List.getElem?_eq_getElem (by have:=HN.out;omega)⟩
   have HXB:Hid (F.blocks[bn]? = some x):=hx
   have HNX:Hid (roundOf F ((orderOf F).take (k+1)) U=passB V x):=by
    show _=_
    rw[List.take_add_one,hb,Option.toList_some,roundOf_snoc,HV.out]
    simp[passN,hx]
   have HWB:Hid (WellB 80 x):=(well_block HS.out HCP.out (List.mem_of_getElem? hx)).to80
   have HBO:Hid (BlockOk (F.blocks.length:Int) F.values x):=HS.out.2.2.2.2 bn x hx
   have HKP:Hid (Keeps 0 w wo):=(Keeps.of_below B2.out 0).trans (keeps_fr HFR.out IM2.out)
   obtain⟨ob,ooff,hoa,q0⟩:∃ob ooff,oa=some ⟨ob,ooff,none⟩∧wo.cell? ⟨ob,ooff+k,none⟩=some (.int .i64 (bn:Int)):=by
    obtain⟨a9,c9,e9,_,h9⟩:=OO.out.at
    simp at e9
    obtain⟨ob,ooff,e8,h8⟩:=h9 (by have:=HOL.out;omega)
    refine⟨ob,ooff,by rw[e9.1];exact e8,keeps_fr HFR.out IM2.out _ _ (Nat.zero_le _) ?_⟩
    rw[h8 k (by have:=HOL.out;omega),List.getD_eq_getElem?_getD,hb]
    rfl
   subst hoa
   have xb:=keeps_fr HFR.out IM2.out ⟨X,0,none⟩ _ (Nat.zero_le _) X2.out
   obtain⟨bb,boff,hba,HBA⟩:∃bb boff,ba=some ⟨bb,boff,none⟩∧Hid (BlockAt 0 wo bb (boff+bn*6) x):=by
    obtain⟨bv,ebv,hbv⟩:=FnAtLo.keep HF.out HKP.out
    simp at ebv
    rw[←ebv.1] at hbv
    obtain⟨bb,boff,e8,h8⟩:=listAt_at hbv hx
    exact⟨bb,boff,e8,h8⟩
   subst hba
   have HPS:Hid (PassesAt wo g mb k1 k2 k3):=HP.out.keep HKP.out
   clear hb hx hb0 hbn
   go_wp2_with fail
   clear q0
   go_loopw [17] (fun i ws=>∃j:Nat,j≤3∧i = .int .i64 j∧MapU ws mb (passJ V x j)∧Fr mb wo ws) (fun i _=>3-(intOf i).toNat)
   case atStart=>exact⟨0,by omega,rfl,HMP.out,Fr.refl _ _⟩
   case round=>
    obtain⟨j,hj,rfl,hMj,hFj⟩:=hrel
    have HMJ:Hid (MapU wr mb (passJ V x j)):=hMj
    have HFJ:Hid (Fr mb wo wr):=hFj
    have KJ:Hid (Keeps 0 wo wr):=keeps_fr hFj HMP.out.isMap
    have pc0:=KJ.out _ _ (Nat.zero_le _) HPS.out.c0
    have pc1:=KJ.out _ _ (Nat.zero_le _) HPS.out.c1
    have pc2:=KJ.out _ _ (Nat.zero_le _) HPS.out.c2
    have pk1:=KJ.out _ _ (Nat.zero_le _) HPS.out.m1
    have pk2:=KJ.out _ _ (Nat.zero_le _) HPS.out.m2
    have pk3:=KJ.out _ _ (Nat.zero_le _) HPS.out.m3
    have xj:=KJ.out _ _ (Nat.zero_le _) xb
    clear hMj hFj
    have hcases:j=0∨j=1∨j=2∨j=3:=by omega
    rcases hcases with hj0 | hj1 | hj2 | hj3
    ·subst hj0
     go_wp2_with fail
     refine(takePhis1_any mb k1 _ bb (boff+bn*6) x _ HMJ.out pk1 (HBA.out.keep KJ.out (Nat.zero_le _)) HWB.out HBO.out.1 (fun p hp=>by obtain⟨q,hq⟩:=List.mem_iff_getElem?.1 hp;have:=(HBO.out.2.2.1 q p hq).2.1;omega)).mono ?_
     rintro e w5 ⟨⟨r,rfl⟩,f5,m5⟩
     have F5:Hid (Fr mb wo w5):=HFJ.out.trans f5
     have M5:Hid (MapU w5 mb (passJ V x 1)):=m5
     clear f5 m5
     go_wp2_with fail
     go_roundw
     case rel=>exact⟨1,by omega,by go_num,M5.out,F5.out⟩
     case measure=>simp[intOf]
    ·subst hj1
     go_wp2_with fail
     refine(takeList1_any mb k2 _ bb (boff+bn*6) x _ HMJ.out pk2 (HBA.out.keep KJ.out (Nat.zero_le _)) HWB.out HBO.out.2.1).mono ?_
     rintro e w5 ⟨⟨r,rfl⟩,f5,m5⟩
     have F5:Hid (Fr mb wo w5):=HFJ.out.trans f5
     have M5:Hid (MapU w5 mb (passJ V x 2)):=m5
     clear f5 m5
     go_wp2_with fail
     go_roundw
     case rel=>exact⟨2,by omega,by go_num,M5.out,F5.out⟩
     case measure=>simp[intOf]
    ·subst hj2
     go_wp2_with fail
     refine(takeTerm1_any mb k3 _ bb (boff+bn*6) x _ HMJ.out pk3 (HBA.out.keep KJ.out (Nat.zero_le _)) HWB.out).mono ?_
     rintro e w5 ⟨⟨r,rfl⟩,f5,m5⟩
     have F5:Hid (Fr mb wo w5):=HFJ.out.trans f5
     have M5:Hid (MapU w5 mb (passJ V x 3)):=m5
     clear f5 m5
     go_wp2_with fail
     go_roundw
     case rel=>exact⟨3,by omega,by go_num,M5.out,F5.out⟩
     case measure=>simp[intOf]
    ·subst hj3
     go_wp2_with fail
     go_roundw
     case rel=>
      refine⟨k+1,by omega,by go_num,?_,HFR.out.trans HFJ.out⟩
      rw[HNX.out]
      exact HMJ.out
     case measure=>simp[intOf];omega
  ·have hkm:k=ol:=by omega
   subst hkm
   go_wp2_with fail
   go_end0
   refine⟨⟨_,rfl⟩,(Fr.ofBelow B2.out).trans HFR.out,?_⟩
   have h9:=HMP.out
   rw[←HV.out,List.take_of_length_le (by have:=HOL.out;omega)] at h9
   exact h9
end Go.Proofs.YtinlfjgabkodcaaGreatDoor
