/- What is needed at the ends and at the beginnings of blocks: each by the other. -/
import Derived.Test.YtkbhbekfniadhaaGreatKLowE
import Derived.Test.YtkbhbekfniadhaaGreatKLImp
import Derived.Test.YtkbhbekfniadhaaGreatLSpFK
import Derived.Test.YtkbhbekfniadhaaGreatKLAt
import Derived.Test.YtkbhbekfniadhaaGreatLawBitsK
namespace Go.Proofs.YtkbhbekfniadhaaGreat
open Go.ChangeShapes Go.WideShapes Go.ChangeAt Go.RowKit
set_option linter.unusedVariables false
theorem aiP (F:FnD)(b:Nat):inF F (qz F) b=qz F b:=by
 have h1:∀b,∀v∈inF F (qz F) b,v∈qz F b:=fun b v hv=>by
  rw[Xb];refine⟨fun ins hc=>hc b v (Xa F (fun i u hu=>((Xb F i u).1 hu).1 ins hc) b v hv),(Qa F (qz F) b).2 v hv⟩
 have h2:∀v∈qz F b,v∈inF F (qz F) b:=fun v hv=>((Xb F b v).1 hv).1 _ (fun i u hu=>Xa F h1 i u hu)
 exact XR (Qa F _ b).1 (ahl F b) (fun x=>⟨h1 b x,h2 x⟩)
theorem aiz {F:FnD}{k:Nat}(hP:qg F)(hk:k<F.blocks.length):xZ F (k:Int) 0=qz F k:=by
 obtain⟨x,hx⟩:∃x,F.blocks[k]?=some x:=⟨_,List.getElem?_eq_getElem hk⟩;have hp:ZF F (k:Int) 0 x:=⟨hP,by omega,by simpa using hx,by omega,by omega⟩;rw[Yj hp,←aiP F k,aiM hx];simp
theorem succs_lt {F:FnD}(h:jm F){b:Nat}{s:Int}(hs:s∈succsN F b):0≤s∧s<F.blocks.length:=by
 unfold succsN at hs;split at hs
 ·rename_i x hx
  have h9:=(h.2.2.2.2 b x hx).2.2.2.2;unfold jL at h9;unfold ahR xR at hs
  repeat' split at hs
  all_goals (repeat' split at h9)
  all_goals simp[Kt] at h9 hs
  all_goals (first | omega | (rcases hs with e | e <;> omega))
 ·cases hs
noncomputable def aiq (F:FnD)(L:List Int)(q:Nat)(v:Int):Bool:=(L.take q).any (fun s=>decide (v∈qz F s.toNat))
theorem aiJ {F:FnD}{L:List Int}{q:Nat}{v s:Int}(h:L[q]?=some s):aiq F L (q+1) v=(aiq F L q v || decide (v∈qz F s.toNat)):=by
 unfold aiq;rw[List.take_add_one,h];simp
theorem aiQ {F:FnD}{L:List Int}{v:Int}{b:Nat}(hL:L=succsN F b)(h0:0≤v)(h1:v<80):aiq F L L.length v=decide (v∈yT F (qz F) b):=by
 subst hL;unfold aiq yT;rw[List.take_length];by_cases h:v∈qT ((succsN F b).flatMap (fun s=>qz F s.toNat))
 ·rw[decide_eq_true h];rw[qM,List.mem_flatMap] at h;rw[List.any_eq_true];obtain⟨⟨s,hs,hv⟩,_⟩:=h;exact⟨s,hs,by simpa using hv⟩
 ·rw[decide_eq_false h,List.any_eq_false];intro s hs hv;exact h ((qM _ _).2 ⟨List.mem_flatMap.2 ⟨s,hs,by simpa using hv⟩,h0,h1⟩)
theorem aiE {F:FnD}(hP:qg F){k:Nat}(hk:k<F.blocks.length):(q7 F).getD k []=qz F k∧(x6 F).getD k []=yT F (qz F) k:=by
 rw[ah1 hP,ah3 hP];simp[List.getD,hk]
theorem aiR (F:FnD):(x6 F).length=(q7 F).length:=by
 by_cases h:qg F
 ·rw[ah1 h,ah3 h];simp
 ·rw[ah2 h,ah6 h]
end Go.Proofs.YtkbhbekfniadhaaGreat
