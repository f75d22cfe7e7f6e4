/-
  NARROWER THAN 'FOR EVERY INPUT', by the rows' own cells (each row's printed sentence says how): FnExactCheckName: laid · FnExactRunName: laid.
  DERIVED. THE GIVEN ROWS OF THIS SEAT. 2 by the template 'for every input the law returns true; each argument reads behind the call as it read before'; 0 by the template 'total and deterministic' (their statements: YtmedlpkfgehhlaaDoorTotals.lean).
  GIVEN WITH THE SEED: the statements are not yours to turn. If you find one false, say at which input.
  Laid BY PROGRAM, IN A SANDBOX (cutbox-rows.mjs): the forced cells as the released guide's own fill.sh prints them over the translation 94bc9aad3ff31a7c… (all of the seat's roots in one cut). By AI agents, Wed Nov 11 2026. No macro, syntax, notation, axiom, sorry.
-/
import Derived.Test.YtmedlpkfgehhlaaDoorChecked
import GoSem.Claim
import GoSem.ClaimJoined
import GoSem.ClaimMapViews
import Derived.JoinedTies
import Derived.KernelRfl
namespace Go.Proofs.YtmedlpkfgehhlaaDoor
/- THE CELL 'sum', in the pinned program and in every row, IS THE sha256 OF THE DUMP (.gsa) THAT YtmedlpkfgehhlaaDoorProg.lean LOADS. Nothing in Lean hashes anything: it is a label: what it is worth is what the hold of that sum in a sandbox is worth. -/
noncomputable def Tryd.pinned : Pinned := { name := "ytmedlpkfgehhlaadoor", sum := "94bc9aad3ff31a7cd64e469f54539f8a800f3de29ee1db460bb267ae2ff1357c", checked := Tryd.checked }
namespace Rows
def none {H : Type} : Left H := { results := [], args := [] }

/- WHAT THE LISTED PACKAGE-LEVEL VARIABLES READ AS WHEN THE CALL BEGINS. Each datum BY PROGRAM (the guide's laid-datum.mjs) off the statement by which the dump's own 'gosem.cut.vars' lays the variable. In a bare row this is a premise. The card (YtmedlpkfgehhlaaDoorCards.lean) ties it to the program's text. -/
def laid_loop_example_g00192_impl_checkNames {H : Type} : DataW H := .agg [.lit (.string [119, 101, 108, 108]), .lit (.string [115, 104, 97, 112, 101]), .lit (.string [100, 101, 97, 100]), .lit (.string [101, 110, 116, 114, 121]), .lit (.string [97, 114, 109, 115]), .lit (.string [116, 119, 105, 99, 101]), .lit (.string [116, 97, 107, 101, 110])]
def laid_loop_example_g00192_impl_runNames {H : Type} : DataW H := .agg [.lit (.string [100, 111, 110, 101]), .lit (.string [102, 117, 101, 108]), .lit (.string [99, 101, 108, 108]), .lit (.string [98, 97, 100])]

/-- 'laws.FnExactCheckName': WHATEVER THE INPUT: true; the input reads as it did. -/
def fnExactCheckNameSpec : ChangeSpec := { name := "fnExactCheckName", vars := ["loop.example/g00192/impl.checkNames"], fn := fun _ => fun
  | [d, g1] => { results := [.lit (.bool true)], args := [d], vars := [g1] }
  | _ => none }
def fnExactCheckNameRow : OpenClaim := { program := "ytmedlpkfgehhlaadoor", sum := "94bc9aad3ff31a7cd64e469f54539f8a800f3de29ee1db460bb267ae2ff1357c", func := "loop.example/g00192/laws.FnExactCheckName", spec := "fnExactCheckName", named := ["loop.example/g00192/impl.checkNames"], apart := false, laid := [("loop.example/g00192/impl.checkNames", laid_loop_example_g00192_impl_checkNames)] }
def FnExactCheckNameSaid : Prop := fnExactCheckNameRow.holds Tryd.pinned (OpenSpec.ofChange fnExactCheckNameSpec)

/-- ITS FALSE NEIGHBOUR: 'it returns false'. Refute it at one input. -/
def fnExactCheckNameWrong : ChangeSpec := { name := "fnExactCheckName", vars := ["loop.example/g00192/impl.checkNames"], fn := fun _ => fun
  | [d, g1] => { results := [.lit (.bool false)], args := [d], vars := [g1] }
  | _ => none }
def FnExactCheckNameWrongFalsely : Prop := fnExactCheckNameRow.holds Tryd.pinned (OpenSpec.ofChange fnExactCheckNameWrong)

/-- 'laws.FnExactRunName': WHATEVER THE INPUT: true; the input reads as it did. -/
def fnExactRunNameSpec : ChangeSpec := { name := "fnExactRunName", vars := ["loop.example/g00192/impl.runNames"], fn := fun _ => fun
  | [d, g1] => { results := [.lit (.bool true)], args := [d], vars := [g1] }
  | _ => none }
def fnExactRunNameRow : OpenClaim := { program := "ytmedlpkfgehhlaadoor", sum := "94bc9aad3ff31a7cd64e469f54539f8a800f3de29ee1db460bb267ae2ff1357c", func := "loop.example/g00192/laws.FnExactRunName", spec := "fnExactRunName", named := ["loop.example/g00192/impl.runNames"], apart := false, laid := [("loop.example/g00192/impl.runNames", laid_loop_example_g00192_impl_runNames)] }
def FnExactRunNameSaid : Prop := fnExactRunNameRow.holds Tryd.pinned (OpenSpec.ofChange fnExactRunNameSpec)

/-- ITS FALSE NEIGHBOUR: 'it returns false'. Refute it at one input. -/
def fnExactRunNameWrong : ChangeSpec := { name := "fnExactRunName", vars := ["loop.example/g00192/impl.runNames"], fn := fun _ => fun
  | [d, g1] => { results := [.lit (.bool false)], args := [d], vars := [g1] }
  | _ => none }
def FnExactRunNameWrongFalsely : Prop := fnExactRunNameRow.holds Tryd.pinned (OpenSpec.ofChange fnExactRunNameWrong)

/- THE SECOND FORM. 'bulk': how many values and letters a reading holds, each counted each time it is reached (what is shared counts as often as it is met; a slice's spare places count too). A statement '..UptoSaid' is the law's where the arguments, and the package variables that the reading takes, are together of bulk at most 1048576: NARROWER than '..Said'. Prove '..Said' where nothing that the law and all that it calls make is longer than what came in: it says more and counts as full. Else prove '..UptoSaid'. A law counts once. -/
mutual
def uptoBulk {H : Type} : DataW H → Nat
  | .lit (.string bytes) => bytes.length + 1
  | .lit _ => 1
  | .nil => 1
  | .ptr d => uptoBulk d + 1
  | .slice elems spare => uptoBulkAll elems + uptoBulkAll spare + 1
  | .agg parts => uptoBulkAll parts + 1
  | .iface _ d => uptoBulk d + 1
  | .map entries => uptoBulkEntries entries + 1
  | .held _ => 1
def uptoBulkAll {H : Type} : List (DataW H) → Nat
  | [] => 0
  | d :: r => uptoBulk d + uptoBulkAll r
def uptoBulkEntries {H : Type} : List (Lit × DataW H) → Nat
  | [] => 0
  | x :: r => uptoBulkEntry x + uptoBulkEntries r
def uptoBulkEntry {H : Type} : Lit × DataW H → Nat
  | (.string bytes, d) => bytes.length + uptoBulk d + 1
  | (_, d) => uptoBulk d + 1
 end
def uptoSmall : (H : Type) → List (DataW H) → Bool := fun _ ds => decide (uptoBulkAll ds ≤ 1048576)
def OpenSpec.upto (s : _root_.Go.ChangeSpec) : _root_.Go.OpenSpec := { _root_.Go.OpenSpec.ofChange s with cond := some uptoSmall }

/-- 'laws.FnExactCheckName', WHERE WHAT IT READS IS OF BULK AT MOST 1048576: true; the input reads as it did. -/
def fnExactCheckNameUptoRow : OpenClaim := { program := "ytmedlpkfgehhlaadoor", sum := "94bc9aad3ff31a7cd64e469f54539f8a800f3de29ee1db460bb267ae2ff1357c", func := "loop.example/g00192/laws.FnExactCheckName", spec := "fnExactCheckName", named := ["loop.example/g00192/impl.checkNames"], apart := false, laid := [("loop.example/g00192/impl.checkNames", laid_loop_example_g00192_impl_checkNames)], narrowed := true }
def FnExactCheckNameUptoSaid : Prop := fnExactCheckNameUptoRow.holds Tryd.pinned (OpenSpec.upto fnExactCheckNameSpec)

/-- 'laws.FnExactRunName', WHERE WHAT IT READS IS OF BULK AT MOST 1048576: true; the input reads as it did. -/
def fnExactRunNameUptoRow : OpenClaim := { program := "ytmedlpkfgehhlaadoor", sum := "94bc9aad3ff31a7cd64e469f54539f8a800f3de29ee1db460bb267ae2ff1357c", func := "loop.example/g00192/laws.FnExactRunName", spec := "fnExactRunName", named := ["loop.example/g00192/impl.runNames"], apart := false, laid := [("loop.example/g00192/impl.runNames", laid_loop_example_g00192_impl_runNames)], narrowed := true }
def FnExactRunNameUptoSaid : Prop := fnExactRunNameUptoRow.holds Tryd.pinned (OpenSpec.upto fnExactRunNameSpec)

end Rows
end Go.Proofs.YtmedlpkfgehhlaaDoor
