/- Small functions of the laws. -/
import Derived.Test.YtkbhbekfniadhaaGreatKTo
import Derived.WalkKit
set_option maxHeartbeats 1000000
namespace Go.Proofs.YtkbhbekfniadhaaGreat
open Go.ChangeShapes Go.WideShapes Go.ChangeAt Go.RowKit
set_option linter.unusedVariables false
theorem ain (v:Value)(l:List Int)(x:Int)(w:World)(hl:jV w v l) :
  Calls Tryz.prog 14 #[v,vi x] w fun e w'=>e=.returned (.bool (decide (x∈l)))∧w'=w:=by
 obtain⟨a,cap,rfl,hm,hc⟩:=hl;obtain⟨n,HN⟩:∃n,Hid (l.length=n):=⟨_,rfl⟩;rw[HN.out] at hm hc ⊢;have HC:Hid (0<n→∃b off,a=some (Z b off)∧∀i,i<n→w.cell? (Z b (off+i))=some (vi (l.getD i 0))):=hc;clear hc;go_enter Tryz.func14,Tryz.ntmps14
 go_wp2
 go_loop [5] (fun i=>∃k:Nat,k≤n∧i=vi k∧∀j,j<k→l.getD j 0≠x) (fun i=>n-(intOf i).toNat)
 case atStart=>exact⟨0,Nat.zero_le _,rfl,fun j hj=>absurd hj (by omega)⟩
 case round=>
  obtain⟨k,hk,rfl,hd⟩:=hrel;have HD:Hid (∀j,j<k→l.getD j 0≠x):=hd;clear hd;by_cases H:(k:Int)<(n:Int)
  ·obtain⟨b,off,rfl,hc1⟩:=HC.out (by omega);have q1:=hc1 k (by omega);clear hc1;obtain⟨y,HY⟩:∃y,Hid (l.getD k 0=y):=⟨_,rfl⟩;rw[HY.out] at q1;by_cases r:y=x
   ·subst r;go_wp2;go_ret;have t:k<l.length:=by have:=HN.out;omega
    have e:l[k]=y:=by have:=HY.out;simpa [List.getD,t] using this
    have h:y∈l:=by rw[←e];exact List.getElem_mem t
    rw[decide_eq_true h];exact⟨rfl,rfl⟩
   ·have hb:(y == x)=false:=by simp[r]
    go_wp2
    go_round
    case rel=>
     refine⟨k+1,by omega,by go_num,fun j hj=>?_⟩;by_cases B:j=k
     ·subst B;rw[HY.out];exact r
     ·exact HD.out j (by omega)
    case measure=>simp[intOf];omega
  ·have G:k=n:=by omega
   subst G;go_wp2;go_ret;have I:¬x∈l:=fun hx=>by
    obtain⟨j,hj,e⟩:=List.getElem_of_mem hx;exact HD.out j (by have:=HN.out;omega) (by simp[List.getD,hj,e])
   rw[decide_eq_false I];exact⟨rfl,rfl⟩
end Go.Proofs.YtkbhbekfniadhaaGreat
