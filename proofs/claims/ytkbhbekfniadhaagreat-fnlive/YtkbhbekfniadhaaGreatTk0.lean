/- Short words for what the texts say often. -/
import Derived.Test.YtkbhbekfniadhaaGreatRows
namespace Go.Proofs.YtkbhbekfniadhaaGreat
abbrev vi (x:Int):Value:=.int .i64 x
abbrev Z (b o:Nat):Addr:=⟨b,o,none⟩
abbrev sq (b o n c:Nat):Value:=.slice (some ⟨b,o,none⟩) n c
set_option linter.unusedVariables false
theorem sT {α:Type _}(l:List α)(i:Nat)(a:α):l.toArray.setIfInBounds i a=(l.set i a).toArray:=List.setIfInBounds_toArray ..
theorem sZ {α:Type _}{x:α}{xs:List α}{a:α}:(x::xs).set 0 a=a::xs:=List.set_cons_zero
theorem sS {α:Type _}{x:α}{xs:List α}{i:Nat}{a:α}:(x::xs).set (i+1) a=x::xs.set i a:=List.set_cons_succ
theorem aI {α:Type _}{xs:Array α}{i:Nat}{b:α}(h:xs[i]?=some b):∃h:i<xs.size,xs[i]=b:=Array.getElem?_eq_some_iff.1 h
/-- The operations of a region. -/
def rO:Code→Nat→Array Oper
 |.region k o _,n=>if k==n then o else #[]
 |.seq a b,n=>match rO a n with
  |⟨[]⟩=>rO b n
  |x=>x
 |.cond _ a b,n=>match rO a n with
  |⟨[]⟩=>rO b n
  |x=>x
 |.block _ a,n=>rO a n
 |.loop a,n=>rO a n
 |.scope a,n=>rO a n
 |_,_=>#[]
def rF (f:Func)(n:Nat):Array Oper:=match f.body with
 |some c=>rO c n
 |none=>#[]
end Go.Proofs.YtkbhbekfniadhaaGreat
