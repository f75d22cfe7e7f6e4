/- A step of a line, read by the model. -/
import Derived.Test.YtjcocpdicogecaaGreatDoorTxPs6bK
namespace Go.Proofs.YtjcocpdicogecaaGreatDoor
open Go.ChangeShapes Go.WideShapes Go.ChangeAt Go.RowKit
theorem l17Step_any (l : List UInt8) (w : World) (hl : l.length ≤ 1048576) :
    Calls Tryz.prog 16 #[.string (bs l)] w fun e w' => GivesLine w l e w' := by
  by_cases hc : opOfL ((spl 32 l).headD []) = 1 ∨ opOfL ((spl 32 l).headD []) = 3 ∨ opOfL ((spl 32 l).headD []) = 8 ∨ opOfL ((spl 32 l).headD []) = 2 ∨ opOfL ((spl 32 l).headD []) = 5
  · exact l17Step_lo l w hl hc
  · exact l17Step_hi l w hl hc
end Go.Proofs.YtjcocpdicogecaaGreatDoor
