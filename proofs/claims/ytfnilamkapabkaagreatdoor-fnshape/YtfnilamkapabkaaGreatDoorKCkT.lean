/- The model's look, its parts: what is taken is made ahead. The model's look. -/
import Derived.Test.YtfnilamkapabkaaGreatDoorKCkS
import Derived.Test.YtfnilamkapabkaaGreatDoorKIns
import Derived.Deep.RegionHeld3
import Derived.Test.YtfnilamkapabkaaGreatDoorKOrd
import Derived.Test.YtfnilamkapabkaaGreatDoorKSh8
import Derived.Test.YtfnilamkapabkaaGreatDoorKMake
import Derived.Test.YtfnilamkapabkaaGreatDoorKTab
namespace Go.Proofs.YtfnilamkapabkaaGreatDoor
open Go.ChangeShapes Go.WideShapes Go.ChangeAt Go.RowKit
set_option linter.unusedVariables false
theorem tells_no {t:Bool}{p:Prop}(h:t=true↔p)(hp:¬p):t=false:=by
 cases t
 ·rfl
 ·exact absurd (h.1 rfl) hp
theorem check_1 {F:FnD}(h:¬FnShape F∨CopyIn F):checkOf F=1:=by unfold checkOf;rw[if_pos h]
theorem check_2 {F:FnD}(h1:¬(¬FnShape F∨CopyIn F))(h2:¬AllReached F):checkOf F=2:=by unfold checkOf;rw[if_neg h1,if_pos h2]
theorem check_3 {F:FnD}(h1:¬(¬FnShape F∨CopyIn F))(h2:AllReached F)(h3:EntryBad F):checkOf F=3:=by unfold checkOf;rw[if_neg h1,if_neg (fun h=>h h2),if_pos h3]
theorem check_4 {F:FnD}(h1:¬(¬FnShape F∨CopyIn F))(h2:AllReached F)(h3:¬EntryBad F)(h4:¬ArmsAll F):checkOf F=4:=by unfold checkOf;rw[if_neg h1,if_neg (fun h=>h h2),if_neg h3,if_pos h4]
theorem check_5 {F:FnD}(h1:¬(¬FnShape F∨CopyIn F))(h2:AllReached F)(h3:¬EntryBad F)(h4:ArmsAll F)(h5:¬MadeOnce F):checkOf F=5:=by unfold checkOf;rw[if_neg h1,if_neg (fun h=>h h2),if_neg h3,if_neg (fun h=>h h4),if_pos h5]
theorem check_6 {F:FnD}(h1:¬(¬FnShape F∨CopyIn F))(h2:AllReached F)(h3:¬EntryBad F)(h4:ArmsAll F)(h5:MadeOnce F)(h6:¬TakenAll F):checkOf F=6:=by unfold checkOf;rw[if_neg h1,if_neg (fun h=>h h2),if_neg h3,if_neg (fun h=>h h4),if_neg (fun h=>h h5),if_pos h6]
theorem check_0 {F:FnD}(h1:¬(¬FnShape F∨CopyIn F))(h2:AllReached F)(h3:¬EntryBad F)(h4:ArmsAll F)(h5:MadeOnce F)(h6:TakenAll F):checkOf F=0:=by unfold checkOf;rw[if_neg h1,if_neg (fun h=>h h2),if_neg h3,if_neg (fun h=>h h4),if_neg (fun h=>h h5),if_neg (fun h=>h h6)]
theorem tells_yes {t:Bool}{p:Prop}(h:t=true↔p)(hp:p):t=true:=h.2 hp
end Go.Proofs.YtfnilamkapabkaaGreatDoor
