/- Critical of the model. -/
import Derived.Test.YtkbhbekfniadhaaGreatTkK
import Derived.Test.YtkbhbekfniadhaaGreatTk0
import Derived.Test.YtkbhbekfniadhaaGreatKEdge
import Derived.Test.YtkbhbekfniadhaaGreatKSh8
set_option maxRecDepth 100000
set_option maxHeartbeats 16000000
namespace Go.Proofs.YtkbhbekfniadhaaGreat
open Go.ChangeShapes Go.WideShapes Go.ChangeAt Go.RowKit
set_option linter.unusedVariables false
theorem KQ (v:Value)(F:FnD)(w:World)(hF:kJ w v F)(hS:jm F) :
  Calls Tryz.prog 102 #[v] w fun e w'=>afC w (critUp F F.blocks.length) e w':=by
 have HF:Hid (kJ w v F):=hF;have HS:Hid (jm F):=hS;obtain⟨n,HN⟩:∃n,Hid (F.blocks.length=n):=⟨_,rfl⟩;obtain⟨vals,HV⟩:∃x,Hid (F.values=x):=⟨_,rfl⟩;obtain⟨ba,bcap,rfl⟩:=hF.out HN.out HV.out;have ap:n≤16:=by have:=hS.2.1;have:=HN.out;omega
 rw[HN.out];clear hF hS;obtain⟨i0,hi,hz0,hz1,hz2⟩:=info_parts ag3;have aB:100≤maxLen:=by decide
 go_enter Tryz.func102,Tryz.ntmps102
 go_wp2_with fail
 obtain⟨w1,hw1⟩:∃W,(w.alloc (.cells #[.slice ba n bcap,vi vals] 26)).alloc (.cells #[] 149)=W:=⟨_,rfl⟩;have B1:Hid (Below w.heap.size w w1):=by show Below _ _ _;rw[←hw1];repeat (first | exact Below.refl _ _ | apply Below.drew | refine Below.alloc ?_ (by simp <;> omega) _ | refine Below.setCell ?_ (by simp <;> omega) _)
 have O1:Hid (jJ w1 w.heap.size (sq (w.heap.size+1) 0 0 0) []):=by show jJ _ _ _ _;rw[←hw1];exact ac0 (by simp) (by omega)
 have X1:Hid (w1.heap[w.heap.size]?=some (.cells #[.slice ba n bcap,vi vals] 26 (0,0))):=by
  show _=_;rw[←hw1,Below.heap_alloc _ _ _ (by simp)];exact World.alloc_heap_new w _
 rw[hw1];clear hw1;go_loopw [3,4] (fun s i wr=>∃k:Nat,k≤n∧i=vi (k:Int)∧jJ wr w.heap.size s (critUp F k)∧Below w.heap.size w wr∧wr.heap[w.heap.size]?=some (.cells #[.slice ba n bcap,vi vals] 26 (0,0))) (fun _ i _=>n-(intOf i).toNat)
 case atStart=>exact⟨0,Nat.zero_le _,rfl,O1.out,B1.out,X1.out⟩
 case round=>
  obtain⟨wq,hwq⟩:∃x,x=wr:=⟨_,rfl⟩;subst hwq;obtain⟨k,hk,rfl,ho,hB,hbx⟩:=hrel;have ad:Hid (jJ wq w.heap.size u3 (critUp F k)):=ho;have L:Hid (Below w.heap.size w wq):=hB;have ae:Hid (wq.heap[w.heap.size]?=some (.cells #[.slice ba n bcap,vi vals] 26 (0,0))):=hbx;have c0:wq.cell? (Z w.heap.size 0)=some (.slice ba n bcap):=by simp[World.cell?,hbx]
  have c1:wq.cell? (Z w.heap.size 1)=some (vi vals):=by simp[World.cell?,hbx]
  have ay:=Xy F k;clear ho hB hbx;by_cases az:(k:Int)<(n:Int)
  ·have af:k<n:=by omega
   go_wp2_with fail
   refine(zo _ F k _ (HF.out.later L.out) (by have:=HN.out;omega)).mono ?_;rintro e w3 ⟨sv,rfl,hs3,b3⟩;have O:Hid (Below w.heap.size w w3):=Bel.after L.out b3;have ab:Hid (jJ w3 w.heap.size u3 (critUp F k)):=ad.out.keep b3;have aa:Hid (w3.heap[w.heap.size]?=some (.cells #[.slice ba n bcap,vi vals] 26 (0,0))):=(b3.block _ (aI ae.out).1).trans ae.out;have S3:Hid (ja w3 w.heap.size sv (succsN F k)):=hs3.low L.out.size;obtain⟨m,HM⟩:∃q,Hid ((succsN F k).length=q):=⟨_,rfl⟩;have aA:m≤2:=by rw[←HM.out];exact zJ F k
   obtain⟨sa,scap,rfl,hsl,_⟩:=hs3.at
   rw[HM.out] at hsl S3 ⊢;clear hs3 b3 c0 c1;by_cases hm:(1:Int)<(m:Int)
   ·have ao:(m:Int) > 1:=hm;have HE:Hid (critUp F (k+1)=critUp F k ++ qi F k (succsN F k)):=by
     show critUp F k ++ yS F k=_;unfold yS;rw[if_pos (by have:=HM.out;omega)]
    go_wp2_with fail
    go_loopw [3,6] (fun s i wr=>∃j:Nat,j≤m∧i=vi (j:Int)∧jJ wr w.heap.size s (critUp F k ++ qi F k ((succsN F k).take j))∧Below w.heap.size w wr∧wr.heap[w.heap.size]?=some (.cells #[.slice ba n bcap,vi vals] 26 (0,0))∧ja wr w.heap.size (.slice sa m scap) (succsN F k)) (fun _ i _=>m-(intOf i).toNat)
    case atStart=>exact⟨0,Nat.zero_le _,rfl,by simpa [qi] using ab.out,O.out,aa.out,S3.out⟩
    case round=>
     obtain⟨wj,hwq⟩:∃x,x=wr:=⟨_,rfl⟩;subst hwq;obtain⟨j,hj,rfl,ho,hB,hbx,hsi⟩:=hrel;have HO:Hid (jJ wj w.heap.size u3 (critUp F k ++ qi F k ((succsN F k).take j))):=ho;have HB:Hid (Below w.heap.size w wj):=hB;have HX:Hid (wj.heap[w.heap.size]?=some (.cells #[.slice ba n bcap,vi vals] 26 (0,0))):=hbx;have M:Hid (ja wj w.heap.size (.slice sa m scap) (succsN F k)):=hsi;have c0:wj.cell? (Z w.heap.size 0)=some (.slice ba n bcap):=by simp[World.cell?,hbx]
     have c1:wj.cell? (Z w.heap.size 1)=some (vi vals):=by simp[World.cell?,hbx]
     have ax:(critUp F k ++ qi F k ((succsN F k).take j)).length≤34:=by
      rw[List.length_append];have:=Zi F k ((succsN F k).take j);simp at this;omega
     clear ho hB hbx hsi;by_cases an:(j:Int)<(m:Int)
     ·obtain⟨sb,soff,rfl,sc⟩:=jV.cellsQ M.out.at j (by omega);obtain⟨sx,HSX⟩:∃q,Hid ((succsN F k).getD j 0=q):=⟨_,rfl⟩;rw[HSX.out] at sc;have ak:=JJ HS.out k sx (by rw[←HSX.out];exact getD_in (by have:=HM.out;omega));obtain⟨s,hs⟩:∃s:Nat,sx=(s:Int):=⟨sx.toNat,by omega⟩;subst hs;have aw:s<n:=by have:=HN.out;omega
      have au:(s:Int)<(n:Int):=by omega
      obtain⟨x,hx⟩:∃x,F.blocks[s]?=some x:=⟨_,List.getElem?_eq_getElem (by have:=HN.out;omega)⟩;have X:Hid ((succsN F k).take (j+1)=(succsN F k).take j ++ [(s:Int)]):=by
       show _=_;rw[ZE (by have:=HM.out;omega),HSX.out]
      have V:Hid (Yb F s=x.phis.length):=agH hx;obtain⟨b,off,rfl,hat⟩:=(HF.out.later HB.out).yg HN.out aw hx;obtain⟨pv,lv,b0,_,_,_,_,_,hps,_⟩:=hat;obtain⟨np,HNP⟩:∃q,Hid (x.phis.length=q):=⟨_,rfl⟩;obtain⟨pa,pcap,rfl,hpm,_⟩:=hps;rw[HNP.out] at b0 hpm V;obtain⟨ql,HQL⟩:∃q,Hid ((yf F (s:Int)).length=q):=⟨_,rfl⟩;clear hx ak;go_wp2_with fail
      by_cases ag:(1:Int)<(ql:Int)
      ·have HY:Hid (KR F (s:Int)=true):=abc (.inl (by have:=HQL.out;omega));have ar:(ql:Int) > 1:=ag;refine wp_region_held_drew (S:=fun w'=>w'.cell? (Z w.heap.size 0)=some (sq b off n bcap)∧w'.cell? (Z w.heap.size 1)=some (vi vals)∧w'.cell? (Z sb (soff+j))=some (vi (s:Int))∧w'.cell? (Z b (off+s*6))=some (.slice pa np pcap)) (by kernel_rfl) ⟨c0,c1,sc,b0⟩ (fun hHeld=>?_);refine tkA 0 ⟨some 29,.load 26 (.tmp 1),26,"l08_edge.go:11",#[],none⟩ ?_ (fun w h=>?_) ?_;rotate_left
       ·(try dsimp only at h);go_simp;(try with_reducible rfl)
       try simp only[Act.put,sT,sZ,sS]
       refine tkA 1 ⟨some 30,.move (.tmp 5),30,"l08_edge.go:11",#[],none⟩ ?_ (fun w h=>?_) ?_;rotate_left
       ·(try dsimp only at h);go_simp;(try with_reducible rfl)
       try simp only[Act.put,sT,sZ,sS]
       refine tkA 2 ⟨some 31,.move (.tmp 6),3,"l08_edge.go:11",#[],none⟩ ?_ (fun w h=>?_) ?_;rotate_left
       ·(try dsimp only at h);go_simp;(try with_reducible rfl)
       try simp only[Act.put,sT,sZ,sS]
       refine tkA 3 ⟨some 32,.indexAddr 30 (.tmp 30) (.tmp 31),0,"l08_edge.go:11",#[⟨1,.data⟩,⟨2,.data⟩],none⟩ ?_ (fun w h=>?_) ?_;rotate_left
       ·(try dsimp only at h);go_simp;(try with_reducible rfl)
       try simp only[Act.put,sT,sZ,sS]
       refine tkA 4 ⟨some 33,.load 3 (.tmp 32),3,"l08_edge.go:11",#[⟨3,.data⟩],none⟩ ?_ (fun w h=>?_) ?_;rotate_left
       ·(try dsimp only at h);go_simp;(try with_reducible rfl)
       try simp only[Act.put,sT,sZ,sS]
       refine jg (i:=5) (o:=⟨some 34,.call ⟨.value (.func 118),#[.tmp 29,.tmp 33],#[26,3]⟩,30,"l08_edge.go:11",#[⟨0,.data⟩,⟨4,.data⟩],none⟩) rfl rfl (by kernel_rfl) (fun K9 I=>?_);refine jx (f:=118) (args := #[.agg #[sq b off n bcap,vi vals],vi (s:Int)]) (by go_simp) (zj _ F (s:Int) _ (HF.out.later HB.out.drew) (by have:=HN.out;omega)) ?_;rintro e w4 ⟨qv,rfl,hq,b4⟩;obtain⟨qa,qcap,rfl,hql,_⟩:=hq.at
       rw[HQL.out] at hql ⊢;have B4:Hid (Below wj.heap.size wj w4):=Bel.after ((Below.refl _ _).drew) b4;refine⟨_,rfl,?_⟩;refine I _ _ ⟨⟨Bel.keeps B4.out c0,Bel.keeps B4.out c1,Bel.keeps B4.out sc,Bel.keeps B4.out b0⟩,?_⟩;try simp only[Act.put,sT,sZ,sS]
       have K:w4.cell? (Z w.heap.size 0)=some (sq b off n bcap)∧w4.cell? (Z w.heap.size 1)=some (vi vals)∧w4.cell? (Z sb (soff+j))=some (vi (s:Int))∧w4.cell? (Z b (off+s*6))=some (.slice pa np pcap):=⟨Bel.keeps B4.out c0,Bel.keeps B4.out c1,Bel.keeps B4.out sc,Bel.keeps B4.out b0⟩;clear I hq b4 hHeld;refine tkA 6 ⟨some 35,.call ⟨.builtin .len,#[.tmp 34],#[30]⟩,3,"l08_edge.go:11",#[⟨5,.data⟩],none⟩ ?_ (fun w h=>?_) ?_;rotate_left
       ·(try dsimp only at h);go_simp;(try with_reducible rfl)
       try simp only[Act.put,sT,sZ,sS]
       refine tkA 7 ⟨some 36,.binOp .gtr 3 (.tmp 35) (.const (vi 1)) 3,4,"l08_edge.go:11",#[⟨6,.data⟩],none⟩ ?_ (fun w h=>?_) ?_;rotate_left
       ·(try dsimp only at h);go_simp;(try with_reducible rfl)
       try simp only[Act.put,sT,sZ,sS]
       refine tkA 8 ⟨some 37,.move (.tmp 36),4,"l08_edge.go:11",#[⟨7,.data⟩,⟨5,.chain⟩],none⟩ ?_ (fun w h=>?_) ?_;rotate_left
       ·(try dsimp only at h);go_simp;(try with_reducible rfl)
       try simp only[Act.put,sT,sZ,sS]
       refine wpAnyH_take (i:=9) (oi:=⟨some 38,.fieldAddr 26 (.tmp 1) 0,0,"l08_edge.go:11",#[⟨8,.guard⟩],some (8,false)⟩) (v:=undef) rfl (by kernel_rfl) (by kernel_rfl) (by kernel_rfl) (fun _ _ _ h=>h) (Or.inr ⟨by rfl,rfl⟩) (by assumption) ?_;try simp only[Act.put,sT,sZ,sS]
       refine wpAnyH_take (i:=10) (oi:=⟨some 39,.load 24 (.tmp 38),24,"l08_edge.go:11",#[⟨9,.data⟩,⟨8,.guard⟩],some (8,false)⟩) (v:=undef) rfl (by kernel_rfl) (by kernel_rfl) (by kernel_rfl) (fun _ _ _ h=>h) (Or.inr ⟨by rfl,rfl⟩) (by assumption) ?_;try simp only[Act.put,sT,sZ,sS]
       refine wpAnyH_take (i:=11) (oi:=⟨some 40,.move (.tmp 5),30,"l08_edge.go:11",#[⟨8,.guard⟩],some (8,false)⟩) (v:=undef) rfl (by kernel_rfl) (by kernel_rfl) (by kernel_rfl) (fun _ _ _ h=>h) (Or.inr ⟨by rfl,rfl⟩) (by assumption) ?_;try simp only[Act.put,sT,sZ,sS]
       refine wpAnyH_take (i:=12) (oi:=⟨some 41,.move (.tmp 6),3,"l08_edge.go:11",#[⟨8,.guard⟩],some (8,false)⟩) (v:=undef) rfl (by kernel_rfl) (by kernel_rfl) (by kernel_rfl) (fun _ _ _ h=>h) (Or.inr ⟨by rfl,rfl⟩) (by assumption) ?_;try simp only[Act.put,sT,sZ,sS]
       refine wpAnyH_take (i:=13) (oi:=⟨some 42,.indexAddr 30 (.tmp 40) (.tmp 41),0,"l08_edge.go:11",#[⟨11,.data⟩,⟨12,.data⟩,⟨8,.guard⟩],some (8,false)⟩) (v:=undef) rfl (by kernel_rfl) (by kernel_rfl) (by kernel_rfl) (fun _ _ _ h=>h) (Or.inr ⟨by rfl,rfl⟩) (by assumption) ?_;try simp only[Act.put,sT,sZ,sS]
       refine wpAnyH_take (i:=14) (oi:=⟨some 43,.load 3 (.tmp 42),3,"l08_edge.go:11",#[⟨13,.data⟩,⟨8,.guard⟩],some (8,false)⟩) (v:=undef) rfl (by kernel_rfl) (by kernel_rfl) (by kernel_rfl) (fun _ _ _ h=>h) (Or.inr ⟨by rfl,rfl⟩) (by assumption) ?_;try simp only[Act.put,sT,sZ,sS]
       refine wpAnyH_take (i:=15) (oi:=⟨some 44,.indexAddr 24 (.tmp 39) (.tmp 43),0,"l08_edge.go:11",#[⟨10,.data⟩,⟨14,.data⟩,⟨8,.guard⟩],some (8,false)⟩) (v:=undef) rfl (by kernel_rfl) (by kernel_rfl) (by kernel_rfl) (fun _ _ _ h=>h) (Or.inr ⟨by rfl,rfl⟩) (by assumption) ?_;try simp only[Act.put,sT,sZ,sS]
       refine wpAnyH_take (i:=16) (oi:=⟨some 45,.fieldAddr 43 (.tmp 44) 0,0,"l08_edge.go:11",#[⟨15,.data⟩,⟨8,.guard⟩],some (8,false)⟩) (v:=undef) rfl (by kernel_rfl) (by kernel_rfl) (by kernel_rfl) (fun _ _ _ h=>h) (Or.inr ⟨by rfl,rfl⟩) (by assumption) ?_;try simp only[Act.put,sT,sZ,sS]
       refine wpAnyH_take (i:=17) (oi:=⟨some 46,.load 38 (.tmp 45),38,"l08_edge.go:11",#[⟨16,.data⟩,⟨8,.guard⟩],some (8,false)⟩) (v:=undef) rfl (by kernel_rfl) (by kernel_rfl) (by kernel_rfl) (fun _ _ _ h=>h) (Or.inr ⟨by rfl,rfl⟩) (by assumption) ?_;try simp only[Act.put,sT,sZ,sS]
       refine wpAnyH_take (i:=18) (oi:=⟨some 47,.call ⟨.builtin .len,#[.tmp 46],#[38]⟩,3,"l08_edge.go:11",#[⟨17,.data⟩,⟨8,.guard⟩],some (8,false)⟩) (v:=undef) rfl (by kernel_rfl) (by kernel_rfl) (by kernel_rfl) (fun _ _ _ h=>h) (Or.inr ⟨by rfl,rfl⟩) (by assumption) ?_;try simp only[Act.put,sT,sZ,sS]
       refine wpAnyH_take (i:=19) (oi:=⟨some 48,.binOp .gtr 3 (.tmp 47) (.const (vi 0)) 3,4,"l08_edge.go:11",#[⟨18,.data⟩,⟨8,.guard⟩],some (8,false)⟩) (v:=undef) rfl (by kernel_rfl) (by kernel_rfl) (by kernel_rfl) (fun _ _ _ h=>h) (Or.inr ⟨by rfl,rfl⟩) (by assumption) ?_;try simp only[Act.put,sT,sZ,sS]
       refine tkA 20 ⟨some 49,.pick (.tmp 37) (.const (.bool true)) (.tmp 48),4,"l08_edge.go:11",#[⟨8,.data⟩,⟨19,.data⟩],none⟩ ?_ (fun w h=>?_) ?_;rotate_left
       ·(try dsimp only at h);go_simp;(try with_reducible rfl)
       try simp only[Act.put,sT,sZ,sS]
       refine wpAnyH_done (by kernel_rfl) ?_ _;clear K;have H:Hid (Below w.heap.size w w4):=Bel.after HB.out B4.out;have B:Hid (jJ w4 w.heap.size u3 (critUp F k ++ qi F k ((succsN F k).take j))):=HO.out.keep B4.out;have G:Hid (ja w4 w.heap.size (sq sb soff m scap) (succsN F k)):=M.out.keep B4.out;have J:Hid (w4.heap[w.heap.size]?=some (.cells #[sq b off n bcap,vi vals] 26 (0,0))):=(B4.out.block _ (aI HX.out).1).trans HX.out;have ah:=Bel.keeps B4.out sc;clear c0 c1 sc b0;simp only[Exit.then]
       go_at_K
       have aj:Hid (KR F (s:Int)=true):=HY.out;go_wp2_with (at_builtin;refine wpList_append_own _ rfl _ _ 146 rfl w.heap.size 149 i0 (.agg #[vi 0,vi 0]) 2 16 Tryz.underlying146 hi hz0 hz1 hz2 rfl (by decide) _ _ _ rfl (World.ownsRow.alloc B.out _) (Z w4.heap.size 0) 1 1 [vi (k:Int),vi (s:Int)] rfl rfl (QN _ _ _ _) (by simp[Value.oneCell']) (by omega) (by omega) (by have:=H.out.size;simp;omega) ?_;intro v' wa t r _;have U:Hid (jJ wa w.heap.size v' ((critUp F k ++ qi F k ((succsN F k).take j)) ++ [⟨(k:Int),(s:Int)⟩])):=jJ.next t;have HG:Hid (World.grownBy _ _ _):=r;clear t r)
       go_roundw
       case rel=>exact⟨j+1,by omega,by go_num,by rw[X.out,Zh HY.out,←List.append_assoc];exact U.out,H.out.trans (QO B.out H.out.size HG.out),ZA B.out HG.out J.out (by decide),abh G.out B.out HG.out⟩
       case measure=>simp[intOf];omega
      ·have ar:¬(ql:Int) > 1:=ag;by_cases hp:(0:Int)<(np:Int)
       ·have HY:Hid (KR F (s:Int)=true):=abc (.inr (by show 0<Yb F s;rw[V.out];omega));have aq:(np:Int) > 0:=hp;refine wp_region_held_drew (S:=fun w'=>w'.cell? (Z w.heap.size 0)=some (sq b off n bcap)∧w'.cell? (Z w.heap.size 1)=some (vi vals)∧w'.cell? (Z sb (soff+j))=some (vi (s:Int))∧w'.cell? (Z b (off+s*6))=some (.slice pa np pcap)) (by kernel_rfl) ⟨c0,c1,sc,b0⟩ (fun hHeld=>?_);refine tkA 0 ⟨some 29,.load 26 (.tmp 1),26,"l08_edge.go:11",#[],none⟩ ?_ (fun w h=>?_) ?_;rotate_left
        ·(try dsimp only at h);go_simp;(try with_reducible rfl)
        try simp only[Act.put,sT,sZ,sS]
        refine tkA 1 ⟨some 30,.move (.tmp 5),30,"l08_edge.go:11",#[],none⟩ ?_ (fun w h=>?_) ?_;rotate_left
        ·(try dsimp only at h);go_simp;(try with_reducible rfl)
        try simp only[Act.put,sT,sZ,sS]
        refine tkA 2 ⟨some 31,.move (.tmp 6),3,"l08_edge.go:11",#[],none⟩ ?_ (fun w h=>?_) ?_;rotate_left
        ·(try dsimp only at h);go_simp;(try with_reducible rfl)
        try simp only[Act.put,sT,sZ,sS]
        refine tkA 3 ⟨some 32,.indexAddr 30 (.tmp 30) (.tmp 31),0,"l08_edge.go:11",#[⟨1,.data⟩,⟨2,.data⟩],none⟩ ?_ (fun w h=>?_) ?_;rotate_left
        ·(try dsimp only at h);go_simp;(try with_reducible rfl)
        try simp only[Act.put,sT,sZ,sS]
        refine tkA 4 ⟨some 33,.load 3 (.tmp 32),3,"l08_edge.go:11",#[⟨3,.data⟩],none⟩ ?_ (fun w h=>?_) ?_;rotate_left
        ·(try dsimp only at h);go_simp;(try with_reducible rfl)
        try simp only[Act.put,sT,sZ,sS]
        refine jg (i:=5) (o:=⟨some 34,.call ⟨.value (.func 118),#[.tmp 29,.tmp 33],#[26,3]⟩,30,"l08_edge.go:11",#[⟨0,.data⟩,⟨4,.data⟩],none⟩) rfl rfl (by kernel_rfl) (fun K9 I=>?_);refine jx (f:=118) (args := #[.agg #[sq b off n bcap,vi vals],vi (s:Int)]) (by go_simp) (zj _ F (s:Int) _ (HF.out.later HB.out.drew) (by have:=HN.out;omega)) ?_;rintro e w4 ⟨qv,rfl,hq,b4⟩;obtain⟨qa,qcap,rfl,hql,_⟩:=hq.at
        rw[HQL.out] at hql ⊢;have B4:Hid (Below wj.heap.size wj w4):=Bel.after ((Below.refl _ _).drew) b4;refine⟨_,rfl,?_⟩;refine I _ _ ⟨⟨Bel.keeps B4.out c0,Bel.keeps B4.out c1,Bel.keeps B4.out sc,Bel.keeps B4.out b0⟩,?_⟩;try simp only[Act.put,sT,sZ,sS]
        have K:w4.cell? (Z w.heap.size 0)=some (sq b off n bcap)∧w4.cell? (Z w.heap.size 1)=some (vi vals)∧w4.cell? (Z sb (soff+j))=some (vi (s:Int))∧w4.cell? (Z b (off+s*6))=some (.slice pa np pcap):=⟨Bel.keeps B4.out c0,Bel.keeps B4.out c1,Bel.keeps B4.out sc,Bel.keeps B4.out b0⟩;clear I hq b4 hHeld;refine tkA 6 ⟨some 35,.call ⟨.builtin .len,#[.tmp 34],#[30]⟩,3,"l08_edge.go:11",#[⟨5,.data⟩],none⟩ ?_ (fun w h=>?_) ?_;rotate_left
        ·(try dsimp only at h);go_simp;(try with_reducible rfl)
        try simp only[Act.put,sT,sZ,sS]
        refine tkA 7 ⟨some 36,.binOp .gtr 3 (.tmp 35) (.const (vi 1)) 3,4,"l08_edge.go:11",#[⟨6,.data⟩],none⟩ ?_ (fun w h=>?_) ?_;rotate_left
        ·(try dsimp only at h);go_simp;(try with_reducible rfl)
        try simp only[Act.put,sT,sZ,sS]
        refine tkA 8 ⟨some 37,.move (.tmp 36),4,"l08_edge.go:11",#[⟨7,.data⟩,⟨5,.chain⟩],none⟩ ?_ (fun w h=>?_) ?_;rotate_left
        ·(try dsimp only at h);go_simp;(try with_reducible rfl)
        try simp only[Act.put,sT,sZ,sS]
        refine tkA 9 ⟨some 38,.fieldAddr 26 (.tmp 1) 0,0,"l08_edge.go:11",#[⟨8,.guard⟩],some (8,false)⟩ ?_ (fun w h=>?_) ?_;rotate_left
        ·(try dsimp only at h);go_simp;(try with_reducible rfl)
        try simp only[Act.put,sT,sZ,sS]
        refine tkA 10 ⟨some 39,.load 24 (.tmp 38),24,"l08_edge.go:11",#[⟨9,.data⟩,⟨8,.guard⟩],some (8,false)⟩ ?_ (fun w h=>?_) ?_;rotate_left
        ·(try dsimp only at h);go_simp;(try with_reducible rfl)
        try simp only[Act.put,sT,sZ,sS]
        refine tkA 11 ⟨some 40,.move (.tmp 5),30,"l08_edge.go:11",#[⟨8,.guard⟩],some (8,false)⟩ ?_ (fun w h=>?_) ?_;rotate_left
        ·(try dsimp only at h);go_simp;(try with_reducible rfl)
        try simp only[Act.put,sT,sZ,sS]
        refine tkA 12 ⟨some 41,.move (.tmp 6),3,"l08_edge.go:11",#[⟨8,.guard⟩],some (8,false)⟩ ?_ (fun w h=>?_) ?_;rotate_left
        ·(try dsimp only at h);go_simp;(try with_reducible rfl)
        try simp only[Act.put,sT,sZ,sS]
        refine tkA 13 ⟨some 42,.indexAddr 30 (.tmp 40) (.tmp 41),0,"l08_edge.go:11",#[⟨11,.data⟩,⟨12,.data⟩,⟨8,.guard⟩],some (8,false)⟩ ?_ (fun w h=>?_) ?_;rotate_left
        ·(try dsimp only at h);go_simp;(try with_reducible rfl)
        try simp only[Act.put,sT,sZ,sS]
        refine tkA 14 ⟨some 43,.load 3 (.tmp 42),3,"l08_edge.go:11",#[⟨13,.data⟩,⟨8,.guard⟩],some (8,false)⟩ ?_ (fun w h=>?_) ?_;rotate_left
        ·(try dsimp only at h);go_simp;(try with_reducible rfl)
        try simp only[Act.put,sT,sZ,sS]
        refine tkA 15 ⟨some 44,.indexAddr 24 (.tmp 39) (.tmp 43),0,"l08_edge.go:11",#[⟨10,.data⟩,⟨14,.data⟩,⟨8,.guard⟩],some (8,false)⟩ ?_ (fun w h=>?_) ?_;rotate_left
        ·(try dsimp only at h);go_simp;(try with_reducible rfl)
        try simp only[Act.put,sT,sZ,sS]
        refine tkA 16 ⟨some 45,.fieldAddr 43 (.tmp 44) 0,0,"l08_edge.go:11",#[⟨15,.data⟩,⟨8,.guard⟩],some (8,false)⟩ ?_ (fun w h=>?_) ?_;rotate_left
        ·(try dsimp only at h);go_simp;(try with_reducible rfl)
        try simp only[Act.put,sT,sZ,sS]
        refine tkA 17 ⟨some 46,.load 38 (.tmp 45),38,"l08_edge.go:11",#[⟨16,.data⟩,⟨8,.guard⟩],some (8,false)⟩ ?_ (fun w h=>?_) ?_;rotate_left
        ·(try dsimp only at h);go_simp;(try with_reducible rfl)
        try simp only[Act.put,sT,sZ,sS]
        refine tkA 18 ⟨some 47,.call ⟨.builtin .len,#[.tmp 46],#[38]⟩,3,"l08_edge.go:11",#[⟨17,.data⟩,⟨8,.guard⟩],some (8,false)⟩ ?_ (fun w h=>?_) ?_;rotate_left
        ·(try dsimp only at h);go_simp;(try with_reducible rfl)
        try simp only[Act.put,sT,sZ,sS]
        refine tkA 19 ⟨some 48,.binOp .gtr 3 (.tmp 47) (.const (vi 0)) 3,4,"l08_edge.go:11",#[⟨18,.data⟩,⟨8,.guard⟩],some (8,false)⟩ ?_ (fun w h=>?_) ?_;rotate_left
        ·(try dsimp only at h);go_simp;(try with_reducible rfl)
        try simp only[Act.put,sT,sZ,sS]
        refine tkA 20 ⟨some 49,.pick (.tmp 37) (.const (.bool true)) (.tmp 48),4,"l08_edge.go:11",#[⟨8,.data⟩,⟨19,.data⟩],none⟩ ?_ (fun w h=>?_) ?_;rotate_left
        ·(try dsimp only at h);go_simp;(try with_reducible rfl)
        try simp only[Act.put,sT,sZ,sS]
        refine wpAnyH_done (by kernel_rfl) ?_ _;clear K;have H:Hid (Below w.heap.size w w4):=Bel.after HB.out B4.out;have B:Hid (jJ w4 w.heap.size u3 (critUp F k ++ qi F k ((succsN F k).take j))):=HO.out.keep B4.out;have G:Hid (ja w4 w.heap.size (sq sb soff m scap) (succsN F k)):=M.out.keep B4.out;have J:Hid (w4.heap[w.heap.size]?=some (.cells #[sq b off n bcap,vi vals] 26 (0,0))):=(B4.out.block _ (aI HX.out).1).trans HX.out;have ah:=Bel.keeps B4.out sc;clear c0 c1 sc b0;simp only[Exit.then]
        go_at_K
        have aj:Hid (KR F (s:Int)=true):=HY.out;go_wp2_with (at_builtin;refine wpList_append_own _ rfl _ _ 146 rfl w.heap.size 149 i0 (.agg #[vi 0,vi 0]) 2 16 Tryz.underlying146 hi hz0 hz1 hz2 rfl (by decide) _ _ _ rfl (World.ownsRow.alloc B.out _) (Z w4.heap.size 0) 1 1 [vi (k:Int),vi (s:Int)] rfl rfl (QN _ _ _ _) (by simp[Value.oneCell']) (by omega) (by omega) (by have:=H.out.size;simp;omega) ?_;intro v' wa t r _;have U:Hid (jJ wa w.heap.size v' ((critUp F k ++ qi F k ((succsN F k).take j)) ++ [⟨(k:Int),(s:Int)⟩])):=jJ.next t;have HG:Hid (World.grownBy _ _ _):=r;clear t r)
        go_roundw
        case rel=>exact⟨j+1,by omega,by go_num,by rw[X.out,Zh HY.out,←List.append_assoc];exact U.out,H.out.trans (QO B.out H.out.size HG.out),ZA B.out HG.out J.out (by decide),abh G.out B.out HG.out⟩
        case measure=>simp[intOf];omega
       ·have HY:Hid (KR F (s:Int)=false):=agI (by have:=HQL.out;omega) (by show ¬0<Yb F s;rw[V.out];omega);have aq:¬(np:Int) > 0:=hp;refine wp_region_held_drew (S:=fun w'=>w'.cell? (Z w.heap.size 0)=some (sq b off n bcap)∧w'.cell? (Z w.heap.size 1)=some (vi vals)∧w'.cell? (Z sb (soff+j))=some (vi (s:Int))∧w'.cell? (Z b (off+s*6))=some (.slice pa np pcap)) (by kernel_rfl) ⟨c0,c1,sc,b0⟩ (fun hHeld=>?_);refine tkA 0 ⟨some 29,.load 26 (.tmp 1),26,"l08_edge.go:11",#[],none⟩ ?_ (fun w h=>?_) ?_;rotate_left
        ·(try dsimp only at h);go_simp;(try with_reducible rfl)
        try simp only[Act.put,sT,sZ,sS]
        refine tkA 1 ⟨some 30,.move (.tmp 5),30,"l08_edge.go:11",#[],none⟩ ?_ (fun w h=>?_) ?_;rotate_left
        ·(try dsimp only at h);go_simp;(try with_reducible rfl)
        try simp only[Act.put,sT,sZ,sS]
        refine tkA 2 ⟨some 31,.move (.tmp 6),3,"l08_edge.go:11",#[],none⟩ ?_ (fun w h=>?_) ?_;rotate_left
        ·(try dsimp only at h);go_simp;(try with_reducible rfl)
        try simp only[Act.put,sT,sZ,sS]
        refine tkA 3 ⟨some 32,.indexAddr 30 (.tmp 30) (.tmp 31),0,"l08_edge.go:11",#[⟨1,.data⟩,⟨2,.data⟩],none⟩ ?_ (fun w h=>?_) ?_;rotate_left
        ·(try dsimp only at h);go_simp;(try with_reducible rfl)
        try simp only[Act.put,sT,sZ,sS]
        refine tkA 4 ⟨some 33,.load 3 (.tmp 32),3,"l08_edge.go:11",#[⟨3,.data⟩],none⟩ ?_ (fun w h=>?_) ?_;rotate_left
        ·(try dsimp only at h);go_simp;(try with_reducible rfl)
        try simp only[Act.put,sT,sZ,sS]
        refine jg (i:=5) (o:=⟨some 34,.call ⟨.value (.func 118),#[.tmp 29,.tmp 33],#[26,3]⟩,30,"l08_edge.go:11",#[⟨0,.data⟩,⟨4,.data⟩],none⟩) rfl rfl (by kernel_rfl) (fun K9 I=>?_);refine jx (f:=118) (args := #[.agg #[sq b off n bcap,vi vals],vi (s:Int)]) (by go_simp) (zj _ F (s:Int) _ (HF.out.later HB.out.drew) (by have:=HN.out;omega)) ?_;rintro e w4 ⟨qv,rfl,hq,b4⟩;obtain⟨qa,qcap,rfl,hql,_⟩:=hq.at
        rw[HQL.out] at hql ⊢;have B4:Hid (Below wj.heap.size wj w4):=Bel.after ((Below.refl _ _).drew) b4;refine⟨_,rfl,?_⟩;refine I _ _ ⟨⟨Bel.keeps B4.out c0,Bel.keeps B4.out c1,Bel.keeps B4.out sc,Bel.keeps B4.out b0⟩,?_⟩;try simp only[Act.put,sT,sZ,sS]
        have K:w4.cell? (Z w.heap.size 0)=some (sq b off n bcap)∧w4.cell? (Z w.heap.size 1)=some (vi vals)∧w4.cell? (Z sb (soff+j))=some (vi (s:Int))∧w4.cell? (Z b (off+s*6))=some (.slice pa np pcap):=⟨Bel.keeps B4.out c0,Bel.keeps B4.out c1,Bel.keeps B4.out sc,Bel.keeps B4.out b0⟩;clear I hq b4 hHeld;refine tkA 6 ⟨some 35,.call ⟨.builtin .len,#[.tmp 34],#[30]⟩,3,"l08_edge.go:11",#[⟨5,.data⟩],none⟩ ?_ (fun w h=>?_) ?_;rotate_left
        ·(try dsimp only at h);go_simp;(try with_reducible rfl)
        try simp only[Act.put,sT,sZ,sS]
        refine tkA 7 ⟨some 36,.binOp .gtr 3 (.tmp 35) (.const (vi 1)) 3,4,"l08_edge.go:11",#[⟨6,.data⟩],none⟩ ?_ (fun w h=>?_) ?_;rotate_left
        ·(try dsimp only at h);go_simp;(try with_reducible rfl)
        try simp only[Act.put,sT,sZ,sS]
        refine tkA 8 ⟨some 37,.move (.tmp 36),4,"l08_edge.go:11",#[⟨7,.data⟩,⟨5,.chain⟩],none⟩ ?_ (fun w h=>?_) ?_;rotate_left
        ·(try dsimp only at h);go_simp;(try with_reducible rfl)
        try simp only[Act.put,sT,sZ,sS]
        refine tkA 9 ⟨some 38,.fieldAddr 26 (.tmp 1) 0,0,"l08_edge.go:11",#[⟨8,.guard⟩],some (8,false)⟩ ?_ (fun w h=>?_) ?_;rotate_left
        ·(try dsimp only at h);go_simp;(try with_reducible rfl)
        try simp only[Act.put,sT,sZ,sS]
        refine tkA 10 ⟨some 39,.load 24 (.tmp 38),24,"l08_edge.go:11",#[⟨9,.data⟩,⟨8,.guard⟩],some (8,false)⟩ ?_ (fun w h=>?_) ?_;rotate_left
        ·(try dsimp only at h);go_simp;(try with_reducible rfl)
        try simp only[Act.put,sT,sZ,sS]
        refine tkA 11 ⟨some 40,.move (.tmp 5),30,"l08_edge.go:11",#[⟨8,.guard⟩],some (8,false)⟩ ?_ (fun w h=>?_) ?_;rotate_left
        ·(try dsimp only at h);go_simp;(try with_reducible rfl)
        try simp only[Act.put,sT,sZ,sS]
        refine tkA 12 ⟨some 41,.move (.tmp 6),3,"l08_edge.go:11",#[⟨8,.guard⟩],some (8,false)⟩ ?_ (fun w h=>?_) ?_;rotate_left
        ·(try dsimp only at h);go_simp;(try with_reducible rfl)
        try simp only[Act.put,sT,sZ,sS]
        refine tkA 13 ⟨some 42,.indexAddr 30 (.tmp 40) (.tmp 41),0,"l08_edge.go:11",#[⟨11,.data⟩,⟨12,.data⟩,⟨8,.guard⟩],some (8,false)⟩ ?_ (fun w h=>?_) ?_;rotate_left
        ·(try dsimp only at h);go_simp;(try with_reducible rfl)
        try simp only[Act.put,sT,sZ,sS]
        refine tkA 14 ⟨some 43,.load 3 (.tmp 42),3,"l08_edge.go:11",#[⟨13,.data⟩,⟨8,.guard⟩],some (8,false)⟩ ?_ (fun w h=>?_) ?_;rotate_left
        ·(try dsimp only at h);go_simp;(try with_reducible rfl)
        try simp only[Act.put,sT,sZ,sS]
        refine tkA 15 ⟨some 44,.indexAddr 24 (.tmp 39) (.tmp 43),0,"l08_edge.go:11",#[⟨10,.data⟩,⟨14,.data⟩,⟨8,.guard⟩],some (8,false)⟩ ?_ (fun w h=>?_) ?_;rotate_left
        ·(try dsimp only at h);go_simp;(try with_reducible rfl)
        try simp only[Act.put,sT,sZ,sS]
        refine tkA 16 ⟨some 45,.fieldAddr 43 (.tmp 44) 0,0,"l08_edge.go:11",#[⟨15,.data⟩,⟨8,.guard⟩],some (8,false)⟩ ?_ (fun w h=>?_) ?_;rotate_left
        ·(try dsimp only at h);go_simp;(try with_reducible rfl)
        try simp only[Act.put,sT,sZ,sS]
        refine tkA 17 ⟨some 46,.load 38 (.tmp 45),38,"l08_edge.go:11",#[⟨16,.data⟩,⟨8,.guard⟩],some (8,false)⟩ ?_ (fun w h=>?_) ?_;rotate_left
        ·(try dsimp only at h);go_simp;(try with_reducible rfl)
        try simp only[Act.put,sT,sZ,sS]
        refine tkA 18 ⟨some 47,.call ⟨.builtin .len,#[.tmp 46],#[38]⟩,3,"l08_edge.go:11",#[⟨17,.data⟩,⟨8,.guard⟩],some (8,false)⟩ ?_ (fun w h=>?_) ?_;rotate_left
        ·(try dsimp only at h);go_simp;(try with_reducible rfl)
        try simp only[Act.put,sT,sZ,sS]
        refine tkA 19 ⟨some 48,.binOp .gtr 3 (.tmp 47) (.const (vi 0)) 3,4,"l08_edge.go:11",#[⟨18,.data⟩,⟨8,.guard⟩],some (8,false)⟩ ?_ (fun w h=>?_) ?_;rotate_left
        ·(try dsimp only at h);go_simp;(try with_reducible rfl)
        try simp only[Act.put,sT,sZ,sS]
        refine tkA 20 ⟨some 49,.pick (.tmp 37) (.const (.bool true)) (.tmp 48),4,"l08_edge.go:11",#[⟨8,.data⟩,⟨19,.data⟩],none⟩ ?_ (fun w h=>?_) ?_;rotate_left
        ·(try dsimp only at h);go_simp;(try with_reducible rfl)
        try simp only[Act.put,sT,sZ,sS]
        refine wpAnyH_done (by kernel_rfl) ?_ _;clear K;have H:Hid (Below w.heap.size w w4):=Bel.after HB.out B4.out;have B:Hid (jJ w4 w.heap.size u3 (critUp F k ++ qi F k ((succsN F k).take j))):=HO.out.keep B4.out;have G:Hid (ja w4 w.heap.size (sq sb soff m scap) (succsN F k)):=M.out.keep B4.out;have J:Hid (w4.heap[w.heap.size]?=some (.cells #[sq b off n bcap,vi vals] 26 (0,0))):=(B4.out.block _ (aI HX.out).1).trans HX.out;have ah:=Bel.keeps B4.out sc;clear c0 c1 sc b0;simp only[Exit.then]
        go_at_K
        go_wp2_with fail
        go_roundw
        case rel=>exact⟨j+1,by omega,by go_num,by rw[X.out,afp HY.out];exact B.out,H.out,J.out,G.out⟩
        case measure=>simp[intOf];omega
     ·have am:j=m:=by omega
      subst am;have ai:Hid (jJ wj w.heap.size u3 (critUp F (k+1))):=by
       show jJ _ _ _ _;have h:=HO.out;rw[List.take_of_length_le (by have:=HM.out;omega)] at h;rw[HE.out];exact h
      go_wp2_with fail
      go_roundw
      case rel=>exact⟨k+1,by omega,by go_num,ai.out,HB.out,HX.out⟩
      case measure=>simp[intOf];omega
   ·have ao:¬(m:Int) > 1:=hm;have HE:Hid (critUp F (k+1)=critUp F k):=by
     show critUp F k ++ yS F k=_;unfold yS;rw[if_neg (by have:=HM.out;omega)];simp
    go_wp2_with fail
    go_loopw [3,6] (fun s i wr=>i=vi 0∧jJ w3 w.heap.size s (critUp F k)∧wr=w3) (fun _ _ _=>0)
    case atStart=>exact⟨rfl,ab.out,rfl⟩
    case round=>
     obtain⟨rfl,ho,hw⟩:=hrel;have ac:Hid (jJ w3 w.heap.size u3 (critUp F k)):=ho;clear ho;have hw:=hw.symm;subst hw;by_cases h0:(0:Int)<(m:Int)
     ·go_wp2_with fail
      go_roundw
      case rel=>exact⟨k+1,by omega,by go_num,by rw[HE.out];exact ac.out,O.out,aa.out⟩
      case measure=>simp[intOf];omega
     ·go_wp2_with fail
      go_roundw
      case rel=>exact⟨k+1,by omega,by go_num,by rw[HE.out];exact ac.out,O.out,aa.out⟩
      case measure=>simp[intOf];omega
  ·have af:k=n:=by omega
   subst af;go_wp2_with fail
   go_ret;exact⟨_,rfl,ad.out,L.out⟩
end Go.Proofs.YtkbhbekfniadhaaGreat
