/-
  NARROWER THAN 'FOR EVERY INPUT', by the rows' own cells (each row's printed sentence says how): FnStepOk: laid · FnExactStepOk: laid · FnExactMachineOk: laid · FnExactRunMachine: laid · FnExactUses: laid.
  DERIVED. THE GIVEN ROWS OF THIS SEAT. 5 by the template 'for every input the law returns true; each argument reads behind the call as it read before'; 0 by the template 'total and deterministic' (their statements: YtebcocehdjoafaaDoorTotals.lean).
  GIVEN WITH THE SEED: the statements are not yours to turn. If you find one false, say at which input.
  Laid BY PROGRAM, IN A SANDBOX (cutbox-rows.mjs): the forced cells as the released guide's own fill.sh prints them over the translation ec826e518ceb76b4… (all of the seat's roots in one cut). By AI agents, Wed Nov 11 2026. No macro, syntax, notation, axiom, sorry.
-/
import Derived.Test.YtebcocehdjoafaaDoorChecked
import GoSem.Claim
import GoSem.ClaimJoined
import GoSem.ClaimMapViews
import Derived.JoinedTies
import Derived.KernelRfl
namespace Go.Proofs.YtebcocehdjoafaaDoor
/- THE CELL 'sum', in the pinned program and in every row, IS THE sha256 OF THE DUMP (.gsa) THAT YtebcocehdjoafaaDoorProg.lean LOADS. Nothing in Lean hashes anything: it is a label: what it is worth is what the hold of that sum in a sandbox is worth. -/
noncomputable def Tryd.pinned : Pinned := { name := "ytebcocehdjoafaadoor", sum := "ec826e518ceb76b4a20bbfcc7b7c35be56f0ccd6d9470447b0a7839bfb0b4eab", checked := Tryd.checked }
namespace Rows
def none {H : Type} : Left H := { results := [], args := [] }

/- WHAT THE LISTED PACKAGE-LEVEL VARIABLES READ AS WHEN THE CALL BEGINS. Each datum BY PROGRAM (the guide's laid-datum.mjs) off the statement by which the dump's own 'gosem.cut.vars' lays the variable. In a bare row this is a premise. The card (YtebcocehdjoafaaDoorCards.lean) ties it to the program's text. -/
def laid_loop_example_g00192_impl_stepForms {H : Type} : DataW H := .agg [.agg [.lit (.int .i64 0), .lit (.int .i64 0), .lit (.int .i64 0), .lit (.int .i64 0)], .agg [.lit (.int .i64 1), .lit (.int .i64 0), .lit (.int .i64 0), .lit (.int .i64 4)], .agg [.lit (.int .i64 1), .lit (.int .i64 1), .lit (.int .i64 0), .lit (.int .i64 0)], .agg [.lit (.int .i64 1), .lit (.int .i64 0), .lit (.int .i64 0), .lit (.int .i64 2)], .agg [.lit (.int .i64 0), .lit (.int .i64 1), .lit (.int .i64 0), .lit (.int .i64 2)], .agg [.lit (.int .i64 1), .lit (.int .i64 1), .lit (.int .i64 0), .lit (.int .i64 0)], .agg [.lit (.int .i64 0), .lit (.int .i64 1), .lit (.int .i64 1), .lit (.int .i64 0)], .agg [.lit (.int .i64 0), .lit (.int .i64 1), .lit (.int .i64 0), .lit (.int .i64 0)], .agg [.lit (.int .i64 1), .lit (.int .i64 0), .lit (.int .i64 0), .lit (.int .i64 0)], .agg [.lit (.int .i64 0), .lit (.int .i64 0), .lit (.int .i64 0), .lit (.int .i64 3)], .agg [.lit (.int .i64 0), .lit (.int .i64 1), .lit (.int .i64 0), .lit (.int .i64 3)], .agg [.lit (.int .i64 0), .lit (.int .i64 1), .lit (.int .i64 0), .lit (.int .i64 0)]]

/-- 'laws.FnStepOk': WHATEVER THE INPUT: true; the input reads as it did. -/
def fnStepOkSpec : ChangeSpec := { name := "fnStepOk", vars := ["loop.example/g00192/impl.stepForms"], fn := fun _ => fun
  | [d, g1] => { results := [.lit (.bool true)], args := [d], vars := [g1] }
  | _ => none }
def fnStepOkRow : OpenClaim := { program := "ytebcocehdjoafaadoor", sum := "ec826e518ceb76b4a20bbfcc7b7c35be56f0ccd6d9470447b0a7839bfb0b4eab", func := "loop.example/g00192/laws.FnStepOk", spec := "fnStepOk", named := ["loop.example/g00192/impl.stepForms"], apart := false, laid := [("loop.example/g00192/impl.stepForms", laid_loop_example_g00192_impl_stepForms)] }
def FnStepOkSaid : Prop := fnStepOkRow.holds Tryd.pinned (OpenSpec.ofChange fnStepOkSpec)

/-- ITS FALSE NEIGHBOUR: 'it returns false'. Refute it at one input. -/
def fnStepOkWrong : ChangeSpec := { name := "fnStepOk", vars := ["loop.example/g00192/impl.stepForms"], fn := fun _ => fun
  | [d, g1] => { results := [.lit (.bool false)], args := [d], vars := [g1] }
  | _ => none }
def FnStepOkWrongFalsely : Prop := fnStepOkRow.holds Tryd.pinned (OpenSpec.ofChange fnStepOkWrong)

/-- 'laws.FnExactStepOk': WHATEVER THE INPUT: true; the input reads as it did. -/
def fnExactStepOkSpec : ChangeSpec := { name := "fnExactStepOk", vars := ["loop.example/g00192/impl.stepForms"], fn := fun _ => fun
  | [d1, d2, g1] => { results := [.lit (.bool true)], args := [d1, d2], vars := [g1] }
  | _ => none }
def fnExactStepOkRow : OpenClaim := { program := "ytebcocehdjoafaadoor", sum := "ec826e518ceb76b4a20bbfcc7b7c35be56f0ccd6d9470447b0a7839bfb0b4eab", func := "loop.example/g00192/laws.FnExactStepOk", spec := "fnExactStepOk", named := ["loop.example/g00192/impl.stepForms"], apart := false, laid := [("loop.example/g00192/impl.stepForms", laid_loop_example_g00192_impl_stepForms)] }
def FnExactStepOkSaid : Prop := fnExactStepOkRow.holds Tryd.pinned (OpenSpec.ofChange fnExactStepOkSpec)

/-- ITS FALSE NEIGHBOUR: 'it returns false'. Refute it at one input. -/
def fnExactStepOkWrong : ChangeSpec := { name := "fnExactStepOk", vars := ["loop.example/g00192/impl.stepForms"], fn := fun _ => fun
  | [d1, d2, g1] => { results := [.lit (.bool false)], args := [d1, d2], vars := [g1] }
  | _ => none }
def FnExactStepOkWrongFalsely : Prop := fnExactStepOkRow.holds Tryd.pinned (OpenSpec.ofChange fnExactStepOkWrong)

/-- 'laws.FnExactMachineOk': WHATEVER THE INPUT: true; the input reads as it did. -/
def fnExactMachineOkSpec : ChangeSpec := { name := "fnExactMachineOk", vars := ["loop.example/g00192/impl.stepForms"], fn := fun _ => fun
  | [d, g1] => { results := [.lit (.bool true)], args := [d], vars := [g1] }
  | _ => none }
def fnExactMachineOkRow : OpenClaim := { program := "ytebcocehdjoafaadoor", sum := "ec826e518ceb76b4a20bbfcc7b7c35be56f0ccd6d9470447b0a7839bfb0b4eab", func := "loop.example/g00192/laws.FnExactMachineOk", spec := "fnExactMachineOk", named := ["loop.example/g00192/impl.stepForms"], apart := false, laid := [("loop.example/g00192/impl.stepForms", laid_loop_example_g00192_impl_stepForms)] }
def FnExactMachineOkSaid : Prop := fnExactMachineOkRow.holds Tryd.pinned (OpenSpec.ofChange fnExactMachineOkSpec)

/-- ITS FALSE NEIGHBOUR: 'it returns false'. Refute it at one input. -/
def fnExactMachineOkWrong : ChangeSpec := { name := "fnExactMachineOk", vars := ["loop.example/g00192/impl.stepForms"], fn := fun _ => fun
  | [d, g1] => { results := [.lit (.bool false)], args := [d], vars := [g1] }
  | _ => none }
def FnExactMachineOkWrongFalsely : Prop := fnExactMachineOkRow.holds Tryd.pinned (OpenSpec.ofChange fnExactMachineOkWrong)

/-- 'laws.FnExactRunMachine': WHATEVER THE INPUT: true; the input reads as it did. -/
def fnExactRunMachineSpec : ChangeSpec := { name := "fnExactRunMachine", vars := ["loop.example/g00192/impl.stepForms"], fn := fun _ => fun
  | [d1, d2, d3, g1] => { results := [.lit (.bool true)], args := [d1, d2, d3], vars := [g1] }
  | _ => none }
def fnExactRunMachineRow : OpenClaim := { program := "ytebcocehdjoafaadoor", sum := "ec826e518ceb76b4a20bbfcc7b7c35be56f0ccd6d9470447b0a7839bfb0b4eab", func := "loop.example/g00192/laws.FnExactRunMachine", spec := "fnExactRunMachine", unfollowed := true, recurses := true, named := ["loop.example/g00192/impl.stepForms"], apart := false, laid := [("loop.example/g00192/impl.stepForms", laid_loop_example_g00192_impl_stepForms)] }
def FnExactRunMachineSaid : Prop := fnExactRunMachineRow.holds Tryd.pinned (OpenSpec.ofChange fnExactRunMachineSpec)

/-- ITS FALSE NEIGHBOUR: 'it returns false'. Refute it at one input. -/
def fnExactRunMachineWrong : ChangeSpec := { name := "fnExactRunMachine", vars := ["loop.example/g00192/impl.stepForms"], fn := fun _ => fun
  | [d1, d2, d3, g1] => { results := [.lit (.bool false)], args := [d1, d2, d3], vars := [g1] }
  | _ => none }
def FnExactRunMachineWrongFalsely : Prop := fnExactRunMachineRow.holds Tryd.pinned (OpenSpec.ofChange fnExactRunMachineWrong)

/-- 'laws.FnExactUses': WHATEVER THE INPUT: true; the input reads as it did. -/
def fnExactUsesSpec : ChangeSpec := { name := "fnExactUses", vars := ["loop.example/g00192/impl.stepForms"], fn := fun _ => fun
  | [d, g1] => { results := [.lit (.bool true)], args := [d], vars := [g1] }
  | _ => none }
def fnExactUsesRow : OpenClaim := { program := "ytebcocehdjoafaadoor", sum := "ec826e518ceb76b4a20bbfcc7b7c35be56f0ccd6d9470447b0a7839bfb0b4eab", func := "loop.example/g00192/laws.FnExactUses", spec := "fnExactUses", inPlace := ["slices.overlaps[int]"], named := ["loop.example/g00192/impl.stepForms"], apart := false, laid := [("loop.example/g00192/impl.stepForms", laid_loop_example_g00192_impl_stepForms)] }
def FnExactUsesSaid : Prop := fnExactUsesRow.holds Tryd.pinned (OpenSpec.ofChange fnExactUsesSpec)

/-- ITS FALSE NEIGHBOUR: 'it returns false'. Refute it at one input. -/
def fnExactUsesWrong : ChangeSpec := { name := "fnExactUses", vars := ["loop.example/g00192/impl.stepForms"], fn := fun _ => fun
  | [d, g1] => { results := [.lit (.bool false)], args := [d], vars := [g1] }
  | _ => none }
def FnExactUsesWrongFalsely : Prop := fnExactUsesRow.holds Tryd.pinned (OpenSpec.ofChange fnExactUsesWrong)

/- THE SECOND FORM. 'bulk': how many values and letters a reading holds, each counted each time it is reached (what is shared counts as often as it is met; a slice's spare places count too). A statement '..UptoSaid' is the law's where the arguments, and the package variables that the reading takes, are together of bulk at most 1048576: NARROWER than '..Said'. Prove '..Said' where nothing that the law and all that it calls make is longer than what came in: it says more and counts as full. Else prove '..UptoSaid'. A law counts once. -/
mutual
def uptoBulk {H : Type} : DataW H → Nat
  | .lit (.string bytes) => bytes.length + 1
  | .lit _ => 1
  | .nil => 1
  | .ptr d => uptoBulk d + 1
  | .slice elems spare => uptoBulkAll elems + uptoBulkAll spare + 1
  | .agg parts => uptoBulkAll parts + 1
  | .iface _ d => uptoBulk d + 1
  | .map entries => uptoBulkEntries entries + 1
  | .held _ => 1
def uptoBulkAll {H : Type} : List (DataW H) → Nat
  | [] => 0
  | d :: r => uptoBulk d + uptoBulkAll r
def uptoBulkEntries {H : Type} : List (Lit × DataW H) → Nat
  | [] => 0
  | x :: r => uptoBulkEntry x + uptoBulkEntries r
def uptoBulkEntry {H : Type} : Lit × DataW H → Nat
  | (.string bytes, d) => bytes.length + uptoBulk d + 1
  | (_, d) => uptoBulk d + 1
 end
def uptoSmall : (H : Type) → List (DataW H) → Bool := fun _ ds => decide (uptoBulkAll ds ≤ 1048576)
def OpenSpec.upto (s : _root_.Go.ChangeSpec) : _root_.Go.OpenSpec := { _root_.Go.OpenSpec.ofChange s with cond := some uptoSmall }

/-- 'laws.FnStepOk', WHERE WHAT IT READS IS OF BULK AT MOST 1048576: true; the input reads as it did. -/
def fnStepOkUptoRow : OpenClaim := { program := "ytebcocehdjoafaadoor", sum := "ec826e518ceb76b4a20bbfcc7b7c35be56f0ccd6d9470447b0a7839bfb0b4eab", func := "loop.example/g00192/laws.FnStepOk", spec := "fnStepOk", named := ["loop.example/g00192/impl.stepForms"], apart := false, laid := [("loop.example/g00192/impl.stepForms", laid_loop_example_g00192_impl_stepForms)], narrowed := true }
def FnStepOkUptoSaid : Prop := fnStepOkUptoRow.holds Tryd.pinned (OpenSpec.upto fnStepOkSpec)

/-- 'laws.FnExactStepOk', WHERE WHAT IT READS IS OF BULK AT MOST 1048576: true; the input reads as it did. -/
def fnExactStepOkUptoRow : OpenClaim := { program := "ytebcocehdjoafaadoor", sum := "ec826e518ceb76b4a20bbfcc7b7c35be56f0ccd6d9470447b0a7839bfb0b4eab", func := "loop.example/g00192/laws.FnExactStepOk", spec := "fnExactStepOk", named := ["loop.example/g00192/impl.stepForms"], apart := false, laid := [("loop.example/g00192/impl.stepForms", laid_loop_example_g00192_impl_stepForms)], narrowed := true }
def FnExactStepOkUptoSaid : Prop := fnExactStepOkUptoRow.holds Tryd.pinned (OpenSpec.upto fnExactStepOkSpec)

/-- 'laws.FnExactMachineOk', WHERE WHAT IT READS IS OF BULK AT MOST 1048576: true; the input reads as it did. -/
def fnExactMachineOkUptoRow : OpenClaim := { program := "ytebcocehdjoafaadoor", sum := "ec826e518ceb76b4a20bbfcc7b7c35be56f0ccd6d9470447b0a7839bfb0b4eab", func := "loop.example/g00192/laws.FnExactMachineOk", spec := "fnExactMachineOk", named := ["loop.example/g00192/impl.stepForms"], apart := false, laid := [("loop.example/g00192/impl.stepForms", laid_loop_example_g00192_impl_stepForms)], narrowed := true }
def FnExactMachineOkUptoSaid : Prop := fnExactMachineOkUptoRow.holds Tryd.pinned (OpenSpec.upto fnExactMachineOkSpec)

/-- 'laws.FnExactRunMachine', WHERE WHAT IT READS IS OF BULK AT MOST 1048576: true; the input reads as it did. -/
def fnExactRunMachineUptoRow : OpenClaim := { program := "ytebcocehdjoafaadoor", sum := "ec826e518ceb76b4a20bbfcc7b7c35be56f0ccd6d9470447b0a7839bfb0b4eab", func := "loop.example/g00192/laws.FnExactRunMachine", spec := "fnExactRunMachine", unfollowed := true, recurses := true, named := ["loop.example/g00192/impl.stepForms"], apart := false, laid := [("loop.example/g00192/impl.stepForms", laid_loop_example_g00192_impl_stepForms)], narrowed := true }
def FnExactRunMachineUptoSaid : Prop := fnExactRunMachineUptoRow.holds Tryd.pinned (OpenSpec.upto fnExactRunMachineSpec)

/-- 'laws.FnExactUses', WHERE WHAT IT READS IS OF BULK AT MOST 1048576: true; the input reads as it did. -/
def fnExactUsesUptoRow : OpenClaim := { program := "ytebcocehdjoafaadoor", sum := "ec826e518ceb76b4a20bbfcc7b7c35be56f0ccd6d9470447b0a7839bfb0b4eab", func := "loop.example/g00192/laws.FnExactUses", spec := "fnExactUses", inPlace := ["slices.overlaps[int]"], named := ["loop.example/g00192/impl.stepForms"], apart := false, laid := [("loop.example/g00192/impl.stepForms", laid_loop_example_g00192_impl_stepForms)], narrowed := true }
def FnExactUsesUptoSaid : Prop := fnExactUsesUptoRow.holds Tryd.pinned (OpenSpec.upto fnExactUsesSpec)

end Rows
end Go.Proofs.YtebcocehdjoafaaDoor
