/- The program's LiveIn and LiveOut. -/
import Derived.Test.YtkbhbekfniadhaaGreatKPre
import Derived.Test.YtkbhbekfniadhaaGreatKDfs
import Derived.Test.YtkbhbekfniadhaaGreatKLDef
import Derived.Test.YtkbhbekfniadhaaGreatKLPl
namespace Go.Proofs.YtkbhbekfniadhaaGreat
open Go.ChangeShapes Go.WideShapes Go.ChangeAt Go.RowKit Go.Shelf
set_option linter.unusedVariables false
structure ahn (w:World)(lo g n:Nat)(us:Array Value)(ls:Nat→List Int):Prop where
 box:w.heap[g]?=some (.cells us 74 (0,0))
 size:us.size=n
 row:∀i,i<n→ja w lo (us.getD i (.slice none 0 0)) (ls i)
 apart:∀i j,i<n→j<n→i≠j→af3 (us.getD i (.slice none 0 0)) (us.getD j (.slice none 0 0))
theorem jA.setsO {w:World}{lo gI gO n:Nat}{us vs:Array Value}{ins outs:Nat→List Int}(h:jA w lo gI gO n us vs ins outs):ahn w lo gO n vs outs :=
 ⟨h.boxO,h.sizeO,h.rowO,fun i j hi hj hne k hk=>h.apart false false i j hi hj (by simpa using hne) k hk⟩
theorem ahn.cell {w:World}{lo g n:Nat}{us:Array Value}{ls:Nat→List Int}(h:ahn w lo g n us ls){i:Nat}(hi:i<n):w.cell? (Z g i)=some (us.getD i (.slice none 0 0)):=by
 have:i<us.size:=by rw[h.size];exact hi
 simp[World.cell?,h.box,this]
theorem ja.form {w:World}{lo:Nat}{v:Value}{l:List Int}(h:ja w lo v l):∃a m c,v=.slice a m c:=by
 rcases h.2 with ⟨h0,_⟩ | ⟨g9,c9,cur,hv,_⟩
 ·exact⟨_,_,_,h0⟩
 ·exact⟨_,_,_,hv⟩
theorem afI (u v:Value)(w:World):(Instr.field 63 (.agg #[u,v]) 1).run Tryz.prog w=.ok v w:=by kernel_rfl
end Go.Proofs.YtkbhbekfniadhaaGreat
