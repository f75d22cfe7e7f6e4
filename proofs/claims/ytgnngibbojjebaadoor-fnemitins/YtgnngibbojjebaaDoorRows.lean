/-
  NARROWER THAN 'FOR EVERY INPUT', by the rows' own cells (each row's printed sentence says how): FnEmitIns: laid · FnIdle: laid · FnExactTrim: laid · FnExactTrimmed: laid.
  DERIVED. THE GIVEN ROWS OF THIS SEAT. 4 by the template 'for every input the law returns true; each argument reads behind the call as it read before'; 0 by the template 'total and deterministic' (their statements: YtgnngibbojjebaaDoorTotals.lean).
  GIVEN WITH THE SEED: the statements are not yours to turn. If you find one false, say at which input.
  Laid BY PROGRAM, IN A SANDBOX (cutbox-rows.mjs): the forced cells as the released guide's own fill.sh prints them over the translation 9daf7592edafefc1… (all of the seat's roots in one cut). By AI agents, Wed Nov 11 2026. No macro, syntax, notation, axiom, sorry.
-/
import Derived.Test.YtgnngibbojjebaaDoorChecked
import GoSem.Claim
import GoSem.ClaimJoined
import GoSem.ClaimMapViews
import Derived.JoinedTies
import Derived.KernelRfl
namespace Go.Proofs.YtgnngibbojjebaaDoor
/- THE CELL 'sum', in the pinned program and in every row, IS THE sha256 OF THE DUMP (.gsa) THAT YtgnngibbojjebaaDoorProg.lean LOADS. Nothing in Lean hashes anything: it is a label: what it is worth is what the hold of that sum in a sandbox is worth. -/
noncomputable def Tryd.pinned : Pinned := { name := "ytgnngibbojjebaadoor", sum := "9daf7592edafefc1fb13e21567d90777143263839ebaf19c32782d598821991c", checked := Tryd.checked }
namespace Rows
def none {H : Type} : Left H := { results := [], args := [] }

/- WHAT THE LISTED PACKAGE-LEVEL VARIABLES READ AS WHEN THE CALL BEGINS. Each datum BY PROGRAM (the guide's laid-datum.mjs) off the statement by which the dump's own 'gosem.cut.vars' lays the variable. In a bare row this is a premise. The card (YtgnngibbojjebaaDoorCards.lean) ties it to the program's text. -/
def laid_loop_example_g00192_impl_stepForms {H : Type} : DataW H := .agg [.agg [.lit (.int .i64 0), .lit (.int .i64 0), .lit (.int .i64 0), .lit (.int .i64 0)], .agg [.lit (.int .i64 1), .lit (.int .i64 0), .lit (.int .i64 0), .lit (.int .i64 4)], .agg [.lit (.int .i64 1), .lit (.int .i64 1), .lit (.int .i64 0), .lit (.int .i64 0)], .agg [.lit (.int .i64 1), .lit (.int .i64 0), .lit (.int .i64 0), .lit (.int .i64 2)], .agg [.lit (.int .i64 0), .lit (.int .i64 1), .lit (.int .i64 0), .lit (.int .i64 2)], .agg [.lit (.int .i64 1), .lit (.int .i64 1), .lit (.int .i64 0), .lit (.int .i64 0)], .agg [.lit (.int .i64 0), .lit (.int .i64 1), .lit (.int .i64 1), .lit (.int .i64 0)], .agg [.lit (.int .i64 0), .lit (.int .i64 1), .lit (.int .i64 0), .lit (.int .i64 0)], .agg [.lit (.int .i64 1), .lit (.int .i64 0), .lit (.int .i64 0), .lit (.int .i64 0)], .agg [.lit (.int .i64 0), .lit (.int .i64 0), .lit (.int .i64 0), .lit (.int .i64 3)], .agg [.lit (.int .i64 0), .lit (.int .i64 1), .lit (.int .i64 0), .lit (.int .i64 3)], .agg [.lit (.int .i64 0), .lit (.int .i64 1), .lit (.int .i64 0), .lit (.int .i64 0)]]

/-- 'laws.FnEmitIns': WHATEVER THE INPUT: true; the input reads as it did. -/
def fnEmitInsSpec : ChangeSpec := { name := "fnEmitIns", vars := ["loop.example/g00192/impl.stepForms"], fn := fun _ => fun
  | [d, g1] => { results := [.lit (.bool true)], args := [d], vars := [g1] }
  | _ => none }
def fnEmitInsRow : OpenClaim := { program := "ytgnngibbojjebaadoor", sum := "9daf7592edafefc1fb13e21567d90777143263839ebaf19c32782d598821991c", func := "loop.example/g00192/laws.FnEmitIns", spec := "fnEmitIns", unfollowed := true, recurses := true, named := ["loop.example/g00192/impl.stepForms"], apart := false, laid := [("loop.example/g00192/impl.stepForms", laid_loop_example_g00192_impl_stepForms)] }
def FnEmitInsSaid : Prop := fnEmitInsRow.holds Tryd.pinned (OpenSpec.ofChange fnEmitInsSpec)

/-- ITS FALSE NEIGHBOUR: 'it returns false'. Refute it at one input. -/
def fnEmitInsWrong : ChangeSpec := { name := "fnEmitIns", vars := ["loop.example/g00192/impl.stepForms"], fn := fun _ => fun
  | [d, g1] => { results := [.lit (.bool false)], args := [d], vars := [g1] }
  | _ => none }
def FnEmitInsWrongFalsely : Prop := fnEmitInsRow.holds Tryd.pinned (OpenSpec.ofChange fnEmitInsWrong)

/-- 'laws.FnIdle': WHATEVER THE INPUT: true; the input reads as it did. -/
def fnIdleSpec : ChangeSpec := { name := "fnIdle", vars := ["loop.example/g00192/impl.stepForms"], fn := fun _ => fun
  | [d, g1] => { results := [.lit (.bool true)], args := [d], vars := [g1] }
  | _ => none }
def fnIdleRow : OpenClaim := { program := "ytgnngibbojjebaadoor", sum := "9daf7592edafefc1fb13e21567d90777143263839ebaf19c32782d598821991c", func := "loop.example/g00192/laws.FnIdle", spec := "fnIdle", recurses := true, named := ["loop.example/g00192/impl.stepForms"], apart := false, laid := [("loop.example/g00192/impl.stepForms", laid_loop_example_g00192_impl_stepForms)] }
def FnIdleSaid : Prop := fnIdleRow.holds Tryd.pinned (OpenSpec.ofChange fnIdleSpec)

/-- ITS FALSE NEIGHBOUR: 'it returns false'. Refute it at one input. -/
def fnIdleWrong : ChangeSpec := { name := "fnIdle", vars := ["loop.example/g00192/impl.stepForms"], fn := fun _ => fun
  | [d, g1] => { results := [.lit (.bool false)], args := [d], vars := [g1] }
  | _ => none }
def FnIdleWrongFalsely : Prop := fnIdleRow.holds Tryd.pinned (OpenSpec.ofChange fnIdleWrong)

/-- 'laws.FnExactTrim': WHATEVER THE INPUT: true; the input reads as it did. -/
def fnExactTrimSpec : ChangeSpec := { name := "fnExactTrim", vars := ["loop.example/g00192/impl.stepForms"], fn := fun _ => fun
  | [d, g1] => { results := [.lit (.bool true)], args := [d], vars := [g1] }
  | _ => none }
def fnExactTrimRow : OpenClaim := { program := "ytgnngibbojjebaadoor", sum := "9daf7592edafefc1fb13e21567d90777143263839ebaf19c32782d598821991c", func := "loop.example/g00192/laws.FnExactTrim", spec := "fnExactTrim", named := ["loop.example/g00192/impl.stepForms"], apart := false, laid := [("loop.example/g00192/impl.stepForms", laid_loop_example_g00192_impl_stepForms)] }
def FnExactTrimSaid : Prop := fnExactTrimRow.holds Tryd.pinned (OpenSpec.ofChange fnExactTrimSpec)

/-- ITS FALSE NEIGHBOUR: 'it returns false'. Refute it at one input. -/
def fnExactTrimWrong : ChangeSpec := { name := "fnExactTrim", vars := ["loop.example/g00192/impl.stepForms"], fn := fun _ => fun
  | [d, g1] => { results := [.lit (.bool false)], args := [d], vars := [g1] }
  | _ => none }
def FnExactTrimWrongFalsely : Prop := fnExactTrimRow.holds Tryd.pinned (OpenSpec.ofChange fnExactTrimWrong)

/-- 'laws.FnExactTrimmed': WHATEVER THE INPUT: true; the input reads as it did. -/
def fnExactTrimmedSpec : ChangeSpec := { name := "fnExactTrimmed", vars := ["loop.example/g00192/impl.stepForms"], fn := fun _ => fun
  | [d, g1] => { results := [.lit (.bool true)], args := [d], vars := [g1] }
  | _ => none }
def fnExactTrimmedRow : OpenClaim := { program := "ytgnngibbojjebaadoor", sum := "9daf7592edafefc1fb13e21567d90777143263839ebaf19c32782d598821991c", func := "loop.example/g00192/laws.FnExactTrimmed", spec := "fnExactTrimmed", named := ["loop.example/g00192/impl.stepForms"], apart := false, laid := [("loop.example/g00192/impl.stepForms", laid_loop_example_g00192_impl_stepForms)] }
def FnExactTrimmedSaid : Prop := fnExactTrimmedRow.holds Tryd.pinned (OpenSpec.ofChange fnExactTrimmedSpec)

/-- ITS FALSE NEIGHBOUR: 'it returns false'. Refute it at one input. -/
def fnExactTrimmedWrong : ChangeSpec := { name := "fnExactTrimmed", vars := ["loop.example/g00192/impl.stepForms"], fn := fun _ => fun
  | [d, g1] => { results := [.lit (.bool false)], args := [d], vars := [g1] }
  | _ => none }
def FnExactTrimmedWrongFalsely : Prop := fnExactTrimmedRow.holds Tryd.pinned (OpenSpec.ofChange fnExactTrimmedWrong)

/- THE SECOND FORM. 'bulk': how many values and letters a reading holds, each counted each time it is reached (what is shared counts as often as it is met; a slice's spare places count too). A statement '..UptoSaid' is the law's where the arguments, and the package variables that the reading takes, are together of bulk at most 1048576: NARROWER than '..Said'. Prove '..Said' where nothing that the law and all that it calls make is longer than what came in: it says more and counts as full. Else prove '..UptoSaid'. A law counts once. -/
mutual
def uptoBulk {H : Type} : DataW H → Nat
  | .lit (.string bytes) => bytes.length + 1
  | .lit _ => 1
  | .nil => 1
  | .ptr d => uptoBulk d + 1
  | .slice elems spare => uptoBulkAll elems + uptoBulkAll spare + 1
  | .agg parts => uptoBulkAll parts + 1
  | .iface _ d => uptoBulk d + 1
  | .map entries => uptoBulkEntries entries + 1
  | .held _ => 1
def uptoBulkAll {H : Type} : List (DataW H) → Nat
  | [] => 0
  | d :: r => uptoBulk d + uptoBulkAll r
def uptoBulkEntries {H : Type} : List (Lit × DataW H) → Nat
  | [] => 0
  | x :: r => uptoBulkEntry x + uptoBulkEntries r
def uptoBulkEntry {H : Type} : Lit × DataW H → Nat
  | (.string bytes, d) => bytes.length + uptoBulk d + 1
  | (_, d) => uptoBulk d + 1
 end
def uptoSmall : (H : Type) → List (DataW H) → Bool := fun _ ds => decide (uptoBulkAll ds ≤ 1048576)
def OpenSpec.upto (s : _root_.Go.ChangeSpec) : _root_.Go.OpenSpec := { _root_.Go.OpenSpec.ofChange s with cond := some uptoSmall }

/-- 'laws.FnEmitIns', WHERE WHAT IT READS IS OF BULK AT MOST 1048576: true; the input reads as it did. -/
def fnEmitInsUptoRow : OpenClaim := { program := "ytgnngibbojjebaadoor", sum := "9daf7592edafefc1fb13e21567d90777143263839ebaf19c32782d598821991c", func := "loop.example/g00192/laws.FnEmitIns", spec := "fnEmitIns", unfollowed := true, recurses := true, named := ["loop.example/g00192/impl.stepForms"], apart := false, laid := [("loop.example/g00192/impl.stepForms", laid_loop_example_g00192_impl_stepForms)], narrowed := true }
def FnEmitInsUptoSaid : Prop := fnEmitInsUptoRow.holds Tryd.pinned (OpenSpec.upto fnEmitInsSpec)

/-- 'laws.FnIdle', WHERE WHAT IT READS IS OF BULK AT MOST 1048576: true; the input reads as it did. -/
def fnIdleUptoRow : OpenClaim := { program := "ytgnngibbojjebaadoor", sum := "9daf7592edafefc1fb13e21567d90777143263839ebaf19c32782d598821991c", func := "loop.example/g00192/laws.FnIdle", spec := "fnIdle", recurses := true, named := ["loop.example/g00192/impl.stepForms"], apart := false, laid := [("loop.example/g00192/impl.stepForms", laid_loop_example_g00192_impl_stepForms)], narrowed := true }
def FnIdleUptoSaid : Prop := fnIdleUptoRow.holds Tryd.pinned (OpenSpec.upto fnIdleSpec)

/-- 'laws.FnExactTrim', WHERE WHAT IT READS IS OF BULK AT MOST 1048576: true; the input reads as it did. -/
def fnExactTrimUptoRow : OpenClaim := { program := "ytgnngibbojjebaadoor", sum := "9daf7592edafefc1fb13e21567d90777143263839ebaf19c32782d598821991c", func := "loop.example/g00192/laws.FnExactTrim", spec := "fnExactTrim", named := ["loop.example/g00192/impl.stepForms"], apart := false, laid := [("loop.example/g00192/impl.stepForms", laid_loop_example_g00192_impl_stepForms)], narrowed := true }
def FnExactTrimUptoSaid : Prop := fnExactTrimUptoRow.holds Tryd.pinned (OpenSpec.upto fnExactTrimSpec)

/-- 'laws.FnExactTrimmed', WHERE WHAT IT READS IS OF BULK AT MOST 1048576: true; the input reads as it did. -/
def fnExactTrimmedUptoRow : OpenClaim := { program := "ytgnngibbojjebaadoor", sum := "9daf7592edafefc1fb13e21567d90777143263839ebaf19c32782d598821991c", func := "loop.example/g00192/laws.FnExactTrimmed", spec := "fnExactTrimmed", named := ["loop.example/g00192/impl.stepForms"], apart := false, laid := [("loop.example/g00192/impl.stepForms", laid_loop_example_g00192_impl_stepForms)], narrowed := true }
def FnExactTrimmedUptoSaid : Prop := fnExactTrimmedUptoRow.holds Tryd.pinned (OpenSpec.upto fnExactTrimmedSpec)

end Rows
end Go.Proofs.YtgnngibbojjebaaDoor
