/- A program's blocks and lists in memory, one at a time. Small facts of lists of numbers in memory. Lists of edges: of the call's own, read, compared, marked, held against the marks. -/
import Derived.Test.YtinlfjgabkodcaaGreatDoorKIns
import Derived.Test.YtinlfjgabkodcaaGreatDoorKSeq
import Derived.Maps.AppendAt
namespace Go.Proofs.YtinlfjgabkodcaaGreatDoor
open Go.ChangeShapes Go.WideShapes Go.ChangeAt Go.RowKit
set_option linter.unusedVariables false
theorem FnAt.blockC {w:World}{ba:Option Addr}{n bcap:Nat}{vals:Int}{F:FnD}(h:FnAt w (.agg #[.slice ba n bcap,.int .i64 vals]) F){k:Nat}{x:BlockD}(hn:F.blocks.length=n)(hk:k<n)(hx:F.blocks[k]? = some x):∃b off,ba=some ⟨b,off,none⟩∧BlockAt 0 w b (off+k*6) x:=by
 obtain⟨bv,he,a0,cap0,hbv,_,hc⟩:=h
 have e1:(.slice ba n bcap:Value)=bv:=by simp at he;exact he.1
 rw[hbv] at e1
 simp at e1
 obtain⟨b,off,hb,_,hel⟩:=hc (by omega)
 exact⟨b,off,e1.1.trans hb,hel k x hx⟩
theorem listAt_at {α:Type}{sz:Nat}{E:World→Nat→Nat→α→Prop}{w:World}{a:Option Addr}{n cap:Nat}{l:List α}(h:ListAt 0 sz E w (.slice a n cap) l){k:Nat}{x:α}(hx:l[k]? = some x):∃b off,a=some ⟨b,off,none⟩∧E w b (off+k*sz) x:=by
 obtain⟨a0,cap0,e,_,hc⟩:=h
 simp at e
 have hk:=(List.getElem?_eq_some_iff.1 hx).1
 obtain⟨b,off,ha,_,hd⟩:=hc (by omega)
 exact⟨b,off,e.1.trans ha,hd k x hx⟩
end Go.Proofs.YtinlfjgabkodcaaGreatDoor
namespace Go.Proofs.YtinlfjgabkodcaaGreatDoor
open Go.ChangeShapes Go.WideShapes Go.ChangeAt Go.RowKit
set_option linter.unusedVariables false
end Go.Proofs.YtinlfjgabkodcaaGreatDoor
