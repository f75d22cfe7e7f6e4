/- Small facts of the law of shapes. -/
import Derived.Test.YtfnilamkapabkaaGreatDoorKRunC
import Derived.Test.YtfnilamkapabkaaGreatDoorKShp
namespace Go.Proofs.YtfnilamkapabkaaGreatDoor
set_option linter.unusedVariables false
theorem run_nought (W:Int→Int→Int→Int){F:FnD}(hS:FnShape F):(runDo W F [] 0).1=1:=by
 obtain⟨b,hb⟩:∃b,F.blocks[0]? = some b:=⟨_,List.getElem?_eq_getElem (by have:=hS.1;omega)⟩
 have hm:min (0:Int) 5000=0:=by decide
 unfold runDo
 rw[show(5001:Nat)=5000+1 from rfl]
 unfold tellN
 simp only[hb]
 cases hl:b.list with
 | nil=>simp[placesDo,enterDo,startDo,hm]
 | cons x xs=>simp[placesDo,enterDo,startDo,hm]
theorem OwnLists.shape0 {w:World}{lo:Nat}{v:Value}(h:OwnLists w lo v []):∃a cap,v = .slice a 0 cap:=by
 obtain⟨g,us,rfl,_⟩:=h
 exact⟨_,_,rfl⟩
theorem costOf_no {F:FnD}(h:¬FnShape F):costOf F = -1:=if_neg h
end Go.Proofs.YtfnilamkapabkaaGreatDoor
