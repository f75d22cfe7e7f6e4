/-
  NARROWER THAN 'FOR EVERY INPUT', by the rows' own cells (each row's printed sentence says how): FnEmitted: laid · FnTrim: laid · FnMachine: laid · FnUses: laid · FnExactEmit: laid.
  DERIVED. THE GIVEN ROWS OF THIS SEAT. 5 by the template 'for every input the law returns true; each argument reads behind the call as it read before'; 0 by the template 'total and deterministic' (their statements: YtkejplddeelahaaGreatDoorTotals.lean).
  GIVEN WITH THE SEED: the statements are not yours to turn. If you find one false, say at which input.
  Laid BY PROGRAM, IN A SANDBOX (cutbox-rows.mjs): the forced cells as the released guide's own fill.sh prints them over the translation 963b19b5db5ee573… (all of the seat's roots in one cut). By AI agents, Wed Nov 11 2026. No macro, syntax, notation, axiom, sorry.
-/
import Derived.Test.YtkejplddeelahaaGreatDoorChecked
import GoSem.Claim
import GoSem.ClaimJoined
import GoSem.ClaimMapViews
import Derived.JoinedTies
import Derived.KernelRfl
namespace Go.Proofs.YtkejplddeelahaaGreatDoor
/- THE CELL 'sum', in the pinned program and in every row, IS THE sha256 OF THE DUMP (.gsa) THAT YtkejplddeelahaaGreatDoorProg.lean LOADS. Nothing in Lean hashes anything: it is a label: what it is worth is what the hold of that sum in a sandbox is worth. -/
noncomputable def Tryz.pinned : Pinned := { name := "ytkejplddeelahaagreatdoor", sum := "963b19b5db5ee57334746400709af0ba8b05f43975b4d3020b8fee1c73575427", checked := Tryz.checked }
namespace Rows
def none {H : Type} : Left H := { results := [], args := [] }

/- WHAT THE LISTED PACKAGE-LEVEL VARIABLES READ AS WHEN THE CALL BEGINS. Each datum BY PROGRAM (the guide's laid-datum.mjs) off the statement by which the dump's own 'gosem.cut.vars' lays the variable. In a bare row this is a premise. The card (YtkejplddeelahaaGreatDoorCards.lean) ties it to the program's text. -/
def laid_loop_example_g00192_impl_stepForms {H : Type} : DataW H := .agg [.agg [.lit (.int .i64 0), .lit (.int .i64 0), .lit (.int .i64 0), .lit (.int .i64 0)], .agg [.lit (.int .i64 1), .lit (.int .i64 0), .lit (.int .i64 0), .lit (.int .i64 4)], .agg [.lit (.int .i64 1), .lit (.int .i64 1), .lit (.int .i64 0), .lit (.int .i64 0)], .agg [.lit (.int .i64 1), .lit (.int .i64 0), .lit (.int .i64 0), .lit (.int .i64 2)], .agg [.lit (.int .i64 0), .lit (.int .i64 1), .lit (.int .i64 0), .lit (.int .i64 2)], .agg [.lit (.int .i64 1), .lit (.int .i64 1), .lit (.int .i64 0), .lit (.int .i64 0)], .agg [.lit (.int .i64 0), .lit (.int .i64 1), .lit (.int .i64 1), .lit (.int .i64 0)], .agg [.lit (.int .i64 0), .lit (.int .i64 1), .lit (.int .i64 0), .lit (.int .i64 0)], .agg [.lit (.int .i64 1), .lit (.int .i64 0), .lit (.int .i64 0), .lit (.int .i64 0)], .agg [.lit (.int .i64 0), .lit (.int .i64 0), .lit (.int .i64 0), .lit (.int .i64 3)], .agg [.lit (.int .i64 0), .lit (.int .i64 1), .lit (.int .i64 0), .lit (.int .i64 3)], .agg [.lit (.int .i64 0), .lit (.int .i64 1), .lit (.int .i64 0), .lit (.int .i64 0)]]

/-- 'laws.FnEmitted': WHATEVER THE INPUT: true; the input reads as it did. -/
def fnEmittedSpec : ChangeSpec := { name := "fnEmitted", vars := ["loop.example/g00192/impl.stepForms"], fn := fun _ => fun
  | [d, g1] => { results := [.lit (.bool true)], args := [d], vars := [g1] }
  | _ => none }
def fnEmittedRow : OpenClaim := { program := "ytkejplddeelahaagreatdoor", sum := "963b19b5db5ee57334746400709af0ba8b05f43975b4d3020b8fee1c73575427", func := "loop.example/g00192/laws.FnEmitted", spec := "fnEmitted", unfollowed := true, recurses := true, named := ["loop.example/g00192/impl.stepForms"], apart := false, laid := [("loop.example/g00192/impl.stepForms", laid_loop_example_g00192_impl_stepForms)] }
def FnEmittedSaid : Prop := fnEmittedRow.holds Tryz.pinned (OpenSpec.ofChange fnEmittedSpec)

/-- ITS FALSE NEIGHBOUR: 'it returns false'. Refute it at one input. -/
def fnEmittedWrong : ChangeSpec := { name := "fnEmitted", vars := ["loop.example/g00192/impl.stepForms"], fn := fun _ => fun
  | [d, g1] => { results := [.lit (.bool false)], args := [d], vars := [g1] }
  | _ => none }
def FnEmittedWrongFalsely : Prop := fnEmittedRow.holds Tryz.pinned (OpenSpec.ofChange fnEmittedWrong)

/-- 'laws.FnTrim': WHATEVER THE INPUT: true; the input reads as it did. -/
def fnTrimSpec : ChangeSpec := { name := "fnTrim", vars := ["loop.example/g00192/impl.stepForms"], fn := fun _ => fun
  | [d, g1] => { results := [.lit (.bool true)], args := [d], vars := [g1] }
  | _ => none }
def fnTrimRow : OpenClaim := { program := "ytkejplddeelahaagreatdoor", sum := "963b19b5db5ee57334746400709af0ba8b05f43975b4d3020b8fee1c73575427", func := "loop.example/g00192/laws.FnTrim", spec := "fnTrim", unfollowed := true, recurses := true, named := ["loop.example/g00192/impl.stepForms"], apart := false, laid := [("loop.example/g00192/impl.stepForms", laid_loop_example_g00192_impl_stepForms)] }
def FnTrimSaid : Prop := fnTrimRow.holds Tryz.pinned (OpenSpec.ofChange fnTrimSpec)

/-- ITS FALSE NEIGHBOUR: 'it returns false'. Refute it at one input. -/
def fnTrimWrong : ChangeSpec := { name := "fnTrim", vars := ["loop.example/g00192/impl.stepForms"], fn := fun _ => fun
  | [d, g1] => { results := [.lit (.bool false)], args := [d], vars := [g1] }
  | _ => none }
def FnTrimWrongFalsely : Prop := fnTrimRow.holds Tryz.pinned (OpenSpec.ofChange fnTrimWrong)

/-- 'laws.FnMachine': WHATEVER THE INPUT: true; the input reads as it did. -/
def fnMachineSpec : ChangeSpec := { name := "fnMachine", vars := ["loop.example/g00192/impl.stepForms"], fn := fun _ => fun
  | [d, g1] => { results := [.lit (.bool true)], args := [d], vars := [g1] }
  | _ => none }
def fnMachineRow : OpenClaim := { program := "ytkejplddeelahaagreatdoor", sum := "963b19b5db5ee57334746400709af0ba8b05f43975b4d3020b8fee1c73575427", func := "loop.example/g00192/laws.FnMachine", spec := "fnMachine", unfollowed := true, recurses := true, named := ["loop.example/g00192/impl.stepForms"], apart := false, laid := [("loop.example/g00192/impl.stepForms", laid_loop_example_g00192_impl_stepForms)] }
def FnMachineSaid : Prop := fnMachineRow.holds Tryz.pinned (OpenSpec.ofChange fnMachineSpec)

/-- ITS FALSE NEIGHBOUR: 'it returns false'. Refute it at one input. -/
def fnMachineWrong : ChangeSpec := { name := "fnMachine", vars := ["loop.example/g00192/impl.stepForms"], fn := fun _ => fun
  | [d, g1] => { results := [.lit (.bool false)], args := [d], vars := [g1] }
  | _ => none }
def FnMachineWrongFalsely : Prop := fnMachineRow.holds Tryz.pinned (OpenSpec.ofChange fnMachineWrong)

/-- 'laws.FnUses': WHATEVER THE INPUT: true; the input reads as it did. -/
def fnUsesSpec : ChangeSpec := { name := "fnUses", vars := ["loop.example/g00192/impl.stepForms"], fn := fun _ => fun
  | [d, g1] => { results := [.lit (.bool true)], args := [d], vars := [g1] }
  | _ => none }
def fnUsesRow : OpenClaim := { program := "ytkejplddeelahaagreatdoor", sum := "963b19b5db5ee57334746400709af0ba8b05f43975b4d3020b8fee1c73575427", func := "loop.example/g00192/laws.FnUses", spec := "fnUses", inPlace := ["slices.overlaps[int]"], recurses := true, named := ["loop.example/g00192/impl.stepForms"], apart := false, laid := [("loop.example/g00192/impl.stepForms", laid_loop_example_g00192_impl_stepForms)] }
def FnUsesSaid : Prop := fnUsesRow.holds Tryz.pinned (OpenSpec.ofChange fnUsesSpec)

/-- ITS FALSE NEIGHBOUR: 'it returns false'. Refute it at one input. -/
def fnUsesWrong : ChangeSpec := { name := "fnUses", vars := ["loop.example/g00192/impl.stepForms"], fn := fun _ => fun
  | [d, g1] => { results := [.lit (.bool false)], args := [d], vars := [g1] }
  | _ => none }
def FnUsesWrongFalsely : Prop := fnUsesRow.holds Tryz.pinned (OpenSpec.ofChange fnUsesWrong)

/-- 'laws.FnExactEmit': WHATEVER THE INPUT: true; the input reads as it did. -/
def fnExactEmitSpec : ChangeSpec := { name := "fnExactEmit", vars := ["loop.example/g00192/impl.stepForms"], fn := fun _ => fun
  | [d, g1] => { results := [.lit (.bool true)], args := [d], vars := [g1] }
  | _ => none }
def fnExactEmitRow : OpenClaim := { program := "ytkejplddeelahaagreatdoor", sum := "963b19b5db5ee57334746400709af0ba8b05f43975b4d3020b8fee1c73575427", func := "loop.example/g00192/laws.FnExactEmit", spec := "fnExactEmit", unfollowed := true, recurses := true, named := ["loop.example/g00192/impl.stepForms"], apart := false, laid := [("loop.example/g00192/impl.stepForms", laid_loop_example_g00192_impl_stepForms)] }
def FnExactEmitSaid : Prop := fnExactEmitRow.holds Tryz.pinned (OpenSpec.ofChange fnExactEmitSpec)

/-- ITS FALSE NEIGHBOUR: 'it returns false'. Refute it at one input. -/
def fnExactEmitWrong : ChangeSpec := { name := "fnExactEmit", vars := ["loop.example/g00192/impl.stepForms"], fn := fun _ => fun
  | [d, g1] => { results := [.lit (.bool false)], args := [d], vars := [g1] }
  | _ => none }
def FnExactEmitWrongFalsely : Prop := fnExactEmitRow.holds Tryz.pinned (OpenSpec.ofChange fnExactEmitWrong)

/- THE SECOND FORM. 'bulk': how many values and letters a reading holds, each counted each time it is reached (what is shared counts as often as it is met; a slice's spare places count too). A statement '..UptoSaid' is the law's where the arguments, and the package variables that the reading takes, are together of bulk at most 1048576: NARROWER than '..Said'. Prove '..Said' where nothing that the law and all that it calls make is longer than what came in: it says more and counts as full. Else prove '..UptoSaid'. A law counts once. -/
mutual
def uptoBulk {H : Type} : DataW H → Nat
  | .lit (.string bytes) => bytes.length + 1
  | .lit _ => 1
  | .nil => 1
  | .ptr d => uptoBulk d + 1
  | .slice elems spare => uptoBulkAll elems + uptoBulkAll spare + 1
  | .agg parts => uptoBulkAll parts + 1
  | .iface _ d => uptoBulk d + 1
  | .map entries => uptoBulkEntries entries + 1
  | .held _ => 1
def uptoBulkAll {H : Type} : List (DataW H) → Nat
  | [] => 0
  | d :: r => uptoBulk d + uptoBulkAll r
def uptoBulkEntries {H : Type} : List (Lit × DataW H) → Nat
  | [] => 0
  | x :: r => uptoBulkEntry x + uptoBulkEntries r
def uptoBulkEntry {H : Type} : Lit × DataW H → Nat
  | (.string bytes, d) => bytes.length + uptoBulk d + 1
  | (_, d) => uptoBulk d + 1
 end
def uptoSmall : (H : Type) → List (DataW H) → Bool := fun _ ds => decide (uptoBulkAll ds ≤ 1048576)
def OpenSpec.upto (s : _root_.Go.ChangeSpec) : _root_.Go.OpenSpec := { _root_.Go.OpenSpec.ofChange s with cond := some uptoSmall }

/-- 'laws.FnEmitted', WHERE WHAT IT READS IS OF BULK AT MOST 1048576: true; the input reads as it did. -/
def fnEmittedUptoRow : OpenClaim := { program := "ytkejplddeelahaagreatdoor", sum := "963b19b5db5ee57334746400709af0ba8b05f43975b4d3020b8fee1c73575427", func := "loop.example/g00192/laws.FnEmitted", spec := "fnEmitted", unfollowed := true, recurses := true, named := ["loop.example/g00192/impl.stepForms"], apart := false, laid := [("loop.example/g00192/impl.stepForms", laid_loop_example_g00192_impl_stepForms)], narrowed := true }
def FnEmittedUptoSaid : Prop := fnEmittedUptoRow.holds Tryz.pinned (OpenSpec.upto fnEmittedSpec)

/-- 'laws.FnTrim', WHERE WHAT IT READS IS OF BULK AT MOST 1048576: true; the input reads as it did. -/
def fnTrimUptoRow : OpenClaim := { program := "ytkejplddeelahaagreatdoor", sum := "963b19b5db5ee57334746400709af0ba8b05f43975b4d3020b8fee1c73575427", func := "loop.example/g00192/laws.FnTrim", spec := "fnTrim", unfollowed := true, recurses := true, named := ["loop.example/g00192/impl.stepForms"], apart := false, laid := [("loop.example/g00192/impl.stepForms", laid_loop_example_g00192_impl_stepForms)], narrowed := true }
def FnTrimUptoSaid : Prop := fnTrimUptoRow.holds Tryz.pinned (OpenSpec.upto fnTrimSpec)

/-- 'laws.FnMachine', WHERE WHAT IT READS IS OF BULK AT MOST 1048576: true; the input reads as it did. -/
def fnMachineUptoRow : OpenClaim := { program := "ytkejplddeelahaagreatdoor", sum := "963b19b5db5ee57334746400709af0ba8b05f43975b4d3020b8fee1c73575427", func := "loop.example/g00192/laws.FnMachine", spec := "fnMachine", unfollowed := true, recurses := true, named := ["loop.example/g00192/impl.stepForms"], apart := false, laid := [("loop.example/g00192/impl.stepForms", laid_loop_example_g00192_impl_stepForms)], narrowed := true }
def FnMachineUptoSaid : Prop := fnMachineUptoRow.holds Tryz.pinned (OpenSpec.upto fnMachineSpec)

/-- 'laws.FnUses', WHERE WHAT IT READS IS OF BULK AT MOST 1048576: true; the input reads as it did. -/
def fnUsesUptoRow : OpenClaim := { program := "ytkejplddeelahaagreatdoor", sum := "963b19b5db5ee57334746400709af0ba8b05f43975b4d3020b8fee1c73575427", func := "loop.example/g00192/laws.FnUses", spec := "fnUses", inPlace := ["slices.overlaps[int]"], recurses := true, named := ["loop.example/g00192/impl.stepForms"], apart := false, laid := [("loop.example/g00192/impl.stepForms", laid_loop_example_g00192_impl_stepForms)], narrowed := true }
def FnUsesUptoSaid : Prop := fnUsesUptoRow.holds Tryz.pinned (OpenSpec.upto fnUsesSpec)

/-- 'laws.FnExactEmit', WHERE WHAT IT READS IS OF BULK AT MOST 1048576: true; the input reads as it did. -/
def fnExactEmitUptoRow : OpenClaim := { program := "ytkejplddeelahaagreatdoor", sum := "963b19b5db5ee57334746400709af0ba8b05f43975b4d3020b8fee1c73575427", func := "loop.example/g00192/laws.FnExactEmit", spec := "fnExactEmit", unfollowed := true, recurses := true, named := ["loop.example/g00192/impl.stepForms"], apart := false, laid := [("loop.example/g00192/impl.stepForms", laid_loop_example_g00192_impl_stepForms)], narrowed := true }
def FnExactEmitUptoSaid : Prop := fnExactEmitUptoRow.holds Tryz.pinned (OpenSpec.upto fnExactEmitSpec)

end Rows
end Go.Proofs.YtkejplddeelahaaGreatDoor
