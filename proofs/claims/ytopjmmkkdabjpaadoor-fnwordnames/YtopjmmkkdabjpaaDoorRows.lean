/-
  NARROWER THAN 'FOR EVERY INPUT', by the rows' own cells (each row's printed sentence says how): FnWordNames: laid · FnExactWordName: laid.
  DERIVED. THE GIVEN ROWS OF THIS SEAT. 2 by the template 'for every input the law returns true; each argument reads behind the call as it read before'; 0 by the template 'total and deterministic' (their statements: YtopjmmkkdabjpaaDoorTotals.lean).
  GIVEN WITH THE SEED: the statements are not yours to turn. If you find one false, say at which input.
  Laid BY PROGRAM, IN A SANDBOX (cutbox-rows.mjs): the forced cells as the released guide's own fill.sh prints them over the translation e7935918787805e9… (all of the seat's roots in one cut). By AI agents, Wed Nov 11 2026. No macro, syntax, notation, axiom, sorry.
-/
import Derived.Test.YtopjmmkkdabjpaaDoorChecked
import GoSem.Claim
import GoSem.ClaimJoined
import GoSem.ClaimMapViews
import Derived.JoinedTies
import Derived.KernelRfl
namespace Go.Proofs.YtopjmmkkdabjpaaDoor
/- THE CELL 'sum', in the pinned program and in every row, IS THE sha256 OF THE DUMP (.gsa) THAT YtopjmmkkdabjpaaDoorProg.lean LOADS. Nothing in Lean hashes anything: it is a label: what it is worth is what the hold of that sum in a sandbox is worth. -/
noncomputable def Tryd.pinned : Pinned := { name := "ytopjmmkkdabjpaadoor", sum := "e7935918787805e9f44614e7ab0f76faa176a0edd2f584031443608fc049c0d3", checked := Tryd.checked }
namespace Rows
def none {H : Type} : Left H := { results := [], args := [] }

/- WHAT THE LISTED PACKAGE-LEVEL VARIABLES READ AS WHEN THE CALL BEGINS. Each datum BY PROGRAM (the guide's laid-datum.mjs) off the statement by which the dump's own 'gosem.cut.vars' lays the variable. In a bare row this is a premise. The card (YtopjmmkkdabjpaaDoorCards.lean) ties it to the program's text. -/
def laid_loop_example_g00192_impl_wordNames {H : Type} : DataW H := .agg [.lit (.string []), .lit (.string [97, 100, 100]), .lit (.string [115, 117, 98]), .lit (.string [109, 117, 108]), .lit (.string [97, 110, 100]), .lit (.string [111, 114]), .lit (.string [120, 111, 114]), .lit (.string [108, 101, 115, 115]), .lit (.string [115, 97, 109, 101]), .lit (.string [108, 101, 102, 116]), .lit (.string [114, 105, 103, 104, 116])]

/-- 'laws.FnWordNames': WHATEVER THE INPUT: true; the input reads as it did. -/
def fnWordNamesSpec : ChangeSpec := { name := "fnWordNames", vars := ["loop.example/g00192/impl.wordNames"], fn := fun _ => fun
  | [d, g1] => { results := [.lit (.bool true)], args := [d], vars := [g1] }
  | _ => none }
def fnWordNamesRow : OpenClaim := { program := "ytopjmmkkdabjpaadoor", sum := "e7935918787805e9f44614e7ab0f76faa176a0edd2f584031443608fc049c0d3", func := "loop.example/g00192/laws.FnWordNames", spec := "fnWordNames", named := ["loop.example/g00192/impl.wordNames"], apart := false, laid := [("loop.example/g00192/impl.wordNames", laid_loop_example_g00192_impl_wordNames)] }
def FnWordNamesSaid : Prop := fnWordNamesRow.holds Tryd.pinned (OpenSpec.ofChange fnWordNamesSpec)

/-- ITS FALSE NEIGHBOUR: 'it returns false'. Refute it at one input. -/
def fnWordNamesWrong : ChangeSpec := { name := "fnWordNames", vars := ["loop.example/g00192/impl.wordNames"], fn := fun _ => fun
  | [d, g1] => { results := [.lit (.bool false)], args := [d], vars := [g1] }
  | _ => none }
def FnWordNamesWrongFalsely : Prop := fnWordNamesRow.holds Tryd.pinned (OpenSpec.ofChange fnWordNamesWrong)

/-- 'laws.FnExactWordName': WHATEVER THE INPUT: true; the input reads as it did. -/
def fnExactWordNameSpec : ChangeSpec := { name := "fnExactWordName", vars := ["loop.example/g00192/impl.wordNames"], fn := fun _ => fun
  | [d, g1] => { results := [.lit (.bool true)], args := [d], vars := [g1] }
  | _ => none }
def fnExactWordNameRow : OpenClaim := { program := "ytopjmmkkdabjpaadoor", sum := "e7935918787805e9f44614e7ab0f76faa176a0edd2f584031443608fc049c0d3", func := "loop.example/g00192/laws.FnExactWordName", spec := "fnExactWordName", named := ["loop.example/g00192/impl.wordNames"], apart := false, laid := [("loop.example/g00192/impl.wordNames", laid_loop_example_g00192_impl_wordNames)] }
def FnExactWordNameSaid : Prop := fnExactWordNameRow.holds Tryd.pinned (OpenSpec.ofChange fnExactWordNameSpec)

/-- ITS FALSE NEIGHBOUR: 'it returns false'. Refute it at one input. -/
def fnExactWordNameWrong : ChangeSpec := { name := "fnExactWordName", vars := ["loop.example/g00192/impl.wordNames"], fn := fun _ => fun
  | [d, g1] => { results := [.lit (.bool false)], args := [d], vars := [g1] }
  | _ => none }
def FnExactWordNameWrongFalsely : Prop := fnExactWordNameRow.holds Tryd.pinned (OpenSpec.ofChange fnExactWordNameWrong)

/- THE SECOND FORM. 'bulk': how many values and letters a reading holds, each counted each time it is reached (what is shared counts as often as it is met; a slice's spare places count too). A statement '..UptoSaid' is the law's where the arguments, and the package variables that the reading takes, are together of bulk at most 1048576: NARROWER than '..Said'. Prove '..Said' where nothing that the law and all that it calls make is longer than what came in: it says more and counts as full. Else prove '..UptoSaid'. A law counts once. -/
mutual
def uptoBulk {H : Type} : DataW H → Nat
  | .lit (.string bytes) => bytes.length + 1
  | .lit _ => 1
  | .nil => 1
  | .ptr d => uptoBulk d + 1
  | .slice elems spare => uptoBulkAll elems + uptoBulkAll spare + 1
  | .agg parts => uptoBulkAll parts + 1
  | .iface _ d => uptoBulk d + 1
  | .map entries => uptoBulkEntries entries + 1
  | .held _ => 1
def uptoBulkAll {H : Type} : List (DataW H) → Nat
  | [] => 0
  | d :: r => uptoBulk d + uptoBulkAll r
def uptoBulkEntries {H : Type} : List (Lit × DataW H) → Nat
  | [] => 0
  | x :: r => uptoBulkEntry x + uptoBulkEntries r
def uptoBulkEntry {H : Type} : Lit × DataW H → Nat
  | (.string bytes, d) => bytes.length + uptoBulk d + 1
  | (_, d) => uptoBulk d + 1
 end
def uptoSmall : (H : Type) → List (DataW H) → Bool := fun _ ds => decide (uptoBulkAll ds ≤ 1048576)
def OpenSpec.upto (s : _root_.Go.ChangeSpec) : _root_.Go.OpenSpec := { _root_.Go.OpenSpec.ofChange s with cond := some uptoSmall }

/-- 'laws.FnWordNames', WHERE WHAT IT READS IS OF BULK AT MOST 1048576: true; the input reads as it did. -/
def fnWordNamesUptoRow : OpenClaim := { program := "ytopjmmkkdabjpaadoor", sum := "e7935918787805e9f44614e7ab0f76faa176a0edd2f584031443608fc049c0d3", func := "loop.example/g00192/laws.FnWordNames", spec := "fnWordNames", named := ["loop.example/g00192/impl.wordNames"], apart := false, laid := [("loop.example/g00192/impl.wordNames", laid_loop_example_g00192_impl_wordNames)], narrowed := true }
def FnWordNamesUptoSaid : Prop := fnWordNamesUptoRow.holds Tryd.pinned (OpenSpec.upto fnWordNamesSpec)

/-- 'laws.FnExactWordName', WHERE WHAT IT READS IS OF BULK AT MOST 1048576: true; the input reads as it did. -/
def fnExactWordNameUptoRow : OpenClaim := { program := "ytopjmmkkdabjpaadoor", sum := "e7935918787805e9f44614e7ab0f76faa176a0edd2f584031443608fc049c0d3", func := "loop.example/g00192/laws.FnExactWordName", spec := "fnExactWordName", named := ["loop.example/g00192/impl.wordNames"], apart := false, laid := [("loop.example/g00192/impl.wordNames", laid_loop_example_g00192_impl_wordNames)], narrowed := true }
def FnExactWordNameUptoSaid : Prop := fnExactWordNameUptoRow.holds Tryd.pinned (OpenSpec.upto fnExactWordNameSpec)

end Rows
end Go.Proofs.YtopjmmkkdabjpaaDoor
