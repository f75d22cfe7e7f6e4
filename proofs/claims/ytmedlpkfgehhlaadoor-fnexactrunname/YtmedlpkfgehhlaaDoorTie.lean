/-
  DERIVED. GIVEN WITH THE SEED: THE PROGRAM's TIES (one call each: nine closed facts by the kernel) AND EACH ROW's TIE, after the 31st guide's Derived/Test/Toyas{Tie, Card}.lean. No idea stands in it: it is a product of the set-up. Laid BY PROGRAM, IN A SANDBOX (cutbox-door.mjs). By AI agents, Wed Nov 11 2026. No macro, syntax, notation, axiom, sorry.
-/
import Derived.Test.YtmedlpkfgehhlaaDoorRows
import Derived.LaidByTextLater
import Derived.SevenTiedAt
import Derived.LaidSub
import Derived.LaidOnce
namespace Go.Proofs.YtmedlpkfgehhlaaDoor
open Go
set_option maxRecDepth 100000
theorem seatTie1 : Tryd.prog.laidByTextLater [("loop.example/g00192/impl.checkNames", Rows.laid_loop_example_g00192_impl_checkNames), ("loop.example/g00192/impl.runNames", Rows.laid_loop_example_g00192_impl_runNames)] [.data, .data] true :=
  Program.laidByTextLater_by_one 19 8 8 (by kernel_rfl) (by kernel_rfl) (by kernel_rfl) (by kernel_rfl) (by kernel_rfl) (by kernel_rfl) (fun _ _ => by kernel_rfl)
theorem noOwnUnsafe : Tryd.pinned.checked.prog.headLifts.contains "ownunsafe" = false := by kernel_rfl
theorem tie : Tryd.prog.laidByTextLater [("loop.example/g00192/impl.checkNames", Rows.laid_loop_example_g00192_impl_checkNames)] [.data] true :=
  Program.laidByTextLater.sub seatTie1 ["loop.example/g00192/impl.checkNames"] (by kernel_rfl) (by kernel_rfl)
theorem fnExactCheckName_row_tie : Rows.fnExactCheckNameRow.laidByTextAt .later Tryd.pinned [.data] true :=
  OpenClaim.laidByTextAt_later rfl rfl tie noOwnUnsafe
theorem tie2 : Tryd.prog.laidByTextLater [("loop.example/g00192/impl.runNames", Rows.laid_loop_example_g00192_impl_runNames)] [.data] true :=
  Program.laidByTextLater.sub seatTie1 ["loop.example/g00192/impl.runNames"] (by kernel_rfl) (by kernel_rfl)
theorem fnExactRunName_row_tie : Rows.fnExactRunNameRow.laidByTextAt .later Tryd.pinned [.data] true :=
  OpenClaim.laidByTextAt_later rfl rfl tie2 noOwnUnsafe
theorem fnExactCheckNameUpto_row_tie : Rows.fnExactCheckNameUptoRow.laidByTextAt .later Tryd.pinned [.data] true :=
  OpenClaim.laidByTextAt_later rfl rfl tie noOwnUnsafe
theorem fnExactRunNameUpto_row_tie : Rows.fnExactRunNameUptoRow.laidByTextAt .later Tryd.pinned [.data] true :=
  OpenClaim.laidByTextAt_later rfl rfl tie2 noOwnUnsafe
end Go.Proofs.YtmedlpkfgehhlaaDoor
