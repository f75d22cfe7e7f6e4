/- Values within bounds, by their list's answer. -/
import Derived.Test.YtfnilamkapabkaaGreatDoorKSh1
namespace Go.Proofs.YtfnilamkapabkaaGreatDoor
open Go.ChangeShapes Go.WideShapes Go.ChangeAt Go.RowKit
set_option linter.unusedVariables false
theorem valuesIn_at (ba:Option Addr)(bn bcap:Nat)(vals:Int)(v:Value)(l:List Int)(bb:Bool)(hbb:l.all (valIn vals)=bb)(w:World)(hl:IntsAt w v l) :
  Calls Tryz.prog 146 #[.agg #[.slice ba bn bcap,.int .i64 vals],v] w fun e w'=>GivesBool w bb e w':=by
 subst hbb
 exact valuesIn_any ba bn bcap vals v l w hl
end Go.Proofs.YtfnilamkapabkaaGreatDoor
