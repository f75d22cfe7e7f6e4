/-
  NARROWER THAN 'FOR EVERY INPUT', by the rows' own cells (each row's printed sentence says how): FnFnBytes: laid · FnExactUnpackFn: laid.
  DERIVED. THE GIVEN ROWS OF THIS SEAT. 2 by the template 'for every input the law returns true; each argument reads behind the call as it read before'; 0 by the template 'total and deterministic' (their statements: YthdioeeanodjiaaDoorTotals.lean).
  GIVEN WITH THE SEED: the statements are not yours to turn. If you find one false, say at which input.
  Laid BY PROGRAM, IN A SANDBOX (cutbox-rows.mjs): the forced cells as the released guide's own fill.sh prints them over the translation caeb7b415f1b043f… (all of the seat's roots in one cut). By AI agents, Wed Nov 11 2026. No macro, syntax, notation, axiom, sorry.
-/
import Derived.Test.YthdioeeanodjiaaDoorChecked
import GoSem.Claim
import GoSem.ClaimJoined
import GoSem.ClaimMapViews
import Derived.JoinedTies
import Derived.KernelRfl
namespace Go.Proofs.YthdioeeanodjiaaDoor
/- THE CELL 'sum', in the pinned program and in every row, IS THE sha256 OF THE DUMP (.gsa) THAT YthdioeeanodjiaaDoorProg.lean LOADS. Nothing in Lean hashes anything: it is a label: what it is worth is what the hold of that sum in a sandbox is worth. -/
noncomputable def Tryd.pinned : Pinned := { name := "ythdioeeanodjiaadoor", sum := "caeb7b415f1b043f5693ecfae493e8acd45f581033adb04091a0513384147056", checked := Tryd.checked }
namespace Rows
def none {H : Type} : Left H := { results := [], args := [] }

/- WHAT THE LISTED PACKAGE-LEVEL VARIABLES READ AS WHEN THE CALL BEGINS. Each datum BY PROGRAM (the guide's laid-datum.mjs) off the statement by which the dump's own 'gosem.cut.vars' lays the variable. In a bare row this is a premise. The card (YthdioeeanodjiaaDoorCards.lean) ties it to the program's text. -/
def laid_loop_example_g00192_impl_wordNames {H : Type} : DataW H := .agg [.lit (.string []), .lit (.string [97, 100, 100]), .lit (.string [115, 117, 98]), .lit (.string [109, 117, 108]), .lit (.string [97, 110, 100]), .lit (.string [111, 114]), .lit (.string [120, 111, 114]), .lit (.string [108, 101, 115, 115]), .lit (.string [115, 97, 109, 101]), .lit (.string [108, 101, 102, 116]), .lit (.string [114, 105, 103, 104, 116])]

/-- 'laws.FnFnBytes': WHATEVER THE INPUT: true; the input reads as it did. -/
def fnFnBytesSpec : ChangeSpec := { name := "fnFnBytes", vars := ["loop.example/g00192/impl.wordNames"], fn := fun _ => fun
  | [d, g1] => { results := [.lit (.bool true)], args := [d], vars := [g1] }
  | _ => none }
def fnFnBytesRow : OpenClaim := { program := "ythdioeeanodjiaadoor", sum := "caeb7b415f1b043f5693ecfae493e8acd45f581033adb04091a0513384147056", func := "loop.example/g00192/laws.FnFnBytes", spec := "fnFnBytes", unfollowed := true, recurses := true, named := ["loop.example/g00192/impl.wordNames"], apart := false, laid := [("loop.example/g00192/impl.wordNames", laid_loop_example_g00192_impl_wordNames)] }
def FnFnBytesSaid : Prop := fnFnBytesRow.holds Tryd.pinned (OpenSpec.ofChange fnFnBytesSpec)

/-- ITS FALSE NEIGHBOUR: 'it returns false'. Refute it at one input. -/
def fnFnBytesWrong : ChangeSpec := { name := "fnFnBytes", vars := ["loop.example/g00192/impl.wordNames"], fn := fun _ => fun
  | [d, g1] => { results := [.lit (.bool false)], args := [d], vars := [g1] }
  | _ => none }
def FnFnBytesWrongFalsely : Prop := fnFnBytesRow.holds Tryd.pinned (OpenSpec.ofChange fnFnBytesWrong)

/-- 'laws.FnExactUnpackFn': WHATEVER THE INPUT: true; the input reads as it did. -/
def fnExactUnpackFnSpec : ChangeSpec := { name := "fnExactUnpackFn", vars := ["loop.example/g00192/impl.wordNames"], fn := fun _ => fun
  | [d, g1] => { results := [.lit (.bool true)], args := [d], vars := [g1] }
  | _ => none }
def fnExactUnpackFnRow : OpenClaim := { program := "ythdioeeanodjiaadoor", sum := "caeb7b415f1b043f5693ecfae493e8acd45f581033adb04091a0513384147056", func := "loop.example/g00192/laws.FnExactUnpackFn", spec := "fnExactUnpackFn", unfollowed := true, recurses := true, named := ["loop.example/g00192/impl.wordNames"], apart := false, laid := [("loop.example/g00192/impl.wordNames", laid_loop_example_g00192_impl_wordNames)] }
def FnExactUnpackFnSaid : Prop := fnExactUnpackFnRow.holds Tryd.pinned (OpenSpec.ofChange fnExactUnpackFnSpec)

/-- ITS FALSE NEIGHBOUR: 'it returns false'. Refute it at one input. -/
def fnExactUnpackFnWrong : ChangeSpec := { name := "fnExactUnpackFn", vars := ["loop.example/g00192/impl.wordNames"], fn := fun _ => fun
  | [d, g1] => { results := [.lit (.bool false)], args := [d], vars := [g1] }
  | _ => none }
def FnExactUnpackFnWrongFalsely : Prop := fnExactUnpackFnRow.holds Tryd.pinned (OpenSpec.ofChange fnExactUnpackFnWrong)

/- THE SECOND FORM. 'bulk': how many values and letters a reading holds, each counted each time it is reached (what is shared counts as often as it is met; a slice's spare places count too). A statement '..UptoSaid' is the law's where the arguments, and the package variables that the reading takes, are together of bulk at most 1048576: NARROWER than '..Said'. Prove '..Said' where nothing that the law and all that it calls make is longer than what came in: it says more and counts as full. Else prove '..UptoSaid'. A law counts once. -/
mutual
def uptoBulk {H : Type} : DataW H → Nat
  | .lit (.string bytes) => bytes.length + 1
  | .lit _ => 1
  | .nil => 1
  | .ptr d => uptoBulk d + 1
  | .slice elems spare => uptoBulkAll elems + uptoBulkAll spare + 1
  | .agg parts => uptoBulkAll parts + 1
  | .iface _ d => uptoBulk d + 1
  | .map entries => uptoBulkEntries entries + 1
  | .held _ => 1
def uptoBulkAll {H : Type} : List (DataW H) → Nat
  | [] => 0
  | d :: r => uptoBulk d + uptoBulkAll r
def uptoBulkEntries {H : Type} : List (Lit × DataW H) → Nat
  | [] => 0
  | x :: r => uptoBulkEntry x + uptoBulkEntries r
def uptoBulkEntry {H : Type} : Lit × DataW H → Nat
  | (.string bytes, d) => bytes.length + uptoBulk d + 1
  | (_, d) => uptoBulk d + 1
 end
def uptoSmall : (H : Type) → List (DataW H) → Bool := fun _ ds => decide (uptoBulkAll ds ≤ 1048576)
def OpenSpec.upto (s : _root_.Go.ChangeSpec) : _root_.Go.OpenSpec := { _root_.Go.OpenSpec.ofChange s with cond := some uptoSmall }

/-- 'laws.FnFnBytes', WHERE WHAT IT READS IS OF BULK AT MOST 1048576: true; the input reads as it did. -/
def fnFnBytesUptoRow : OpenClaim := { program := "ythdioeeanodjiaadoor", sum := "caeb7b415f1b043f5693ecfae493e8acd45f581033adb04091a0513384147056", func := "loop.example/g00192/laws.FnFnBytes", spec := "fnFnBytes", unfollowed := true, recurses := true, named := ["loop.example/g00192/impl.wordNames"], apart := false, laid := [("loop.example/g00192/impl.wordNames", laid_loop_example_g00192_impl_wordNames)], narrowed := true }
def FnFnBytesUptoSaid : Prop := fnFnBytesUptoRow.holds Tryd.pinned (OpenSpec.upto fnFnBytesSpec)

/-- 'laws.FnExactUnpackFn', WHERE WHAT IT READS IS OF BULK AT MOST 1048576: true; the input reads as it did. -/
def fnExactUnpackFnUptoRow : OpenClaim := { program := "ythdioeeanodjiaadoor", sum := "caeb7b415f1b043f5693ecfae493e8acd45f581033adb04091a0513384147056", func := "loop.example/g00192/laws.FnExactUnpackFn", spec := "fnExactUnpackFn", unfollowed := true, recurses := true, named := ["loop.example/g00192/impl.wordNames"], apart := false, laid := [("loop.example/g00192/impl.wordNames", laid_loop_example_g00192_impl_wordNames)], narrowed := true }
def FnExactUnpackFnUptoSaid : Prop := fnExactUnpackFnUptoRow.holds Tryd.pinned (OpenSpec.upto fnExactUnpackFnSpec)

end Rows
end Go.Proofs.YthdioeeanodjiaaDoor
