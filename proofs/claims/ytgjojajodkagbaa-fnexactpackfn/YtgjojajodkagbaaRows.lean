/-
  No cell of these rows narrows 'for every input' (looked for: loops, veiled, ifaces, maps, wideKeys, modest, calm, conditions, laid).
  DERIVED. THE GIVEN ROWS OF THIS SEAT. 4 by the template 'for every input the law returns true; each argument reads behind the call as it read before'; 0 by the template 'total and deterministic' (their statements: YtgjojajodkagbaaTotals.lean).
  GIVEN WITH THE SEED: the statements are not yours to turn. If you find one false, say at which input.
  Laid BY PROGRAM, IN A SANDBOX (cutbox-rows.mjs): the forced cells as the released guide's own fill.sh prints them over the translation 9c6e3f4e2c2ef14d… (all of the seat's roots in one cut). By AI agents, Wed Nov 11 2026. No macro, syntax, notation, axiom, sorry.
-/
import Derived.Test.YtgjojajodkagbaaChecked
import GoSem.Claim
import GoSem.ClaimJoined
import GoSem.ClaimMapViews
import Derived.JoinedTies
import Derived.KernelRfl
namespace Go.Proofs.Ytgjojajodkagbaa
/- THE CELL 'sum', in the pinned program and in every row, IS THE sha256 OF THE DUMP (.gsa) THAT YtgjojajodkagbaaProg.lean LOADS. Nothing in Lean hashes anything: it is a label: what it is worth is what the hold of that sum in a sandbox is worth. -/
noncomputable def Try.pinned : Pinned := { name := "ytgjojajodkagbaa", sum := "9c6e3f4e2c2ef14d005c1d45ff19911d9e793385298b4b5d7723b69a1ce5876c", checked := Try.checked }
namespace Rows
def none {H : Type} : Left H := { results := [], args := [] }

/-- 'laws.FnNumBytes': WHATEVER THE INPUT: true; the input reads as it did. -/
def fnNumBytesSpec : ChangeSpec := { name := "fnNumBytes", fn := fun _ => fun
  | [d] => { results := [.lit (.bool true)], args := [d] }
  | _ => none }
def fnNumBytesRow : OpenClaim := { program := "ytgjojajodkagbaa", sum := "9c6e3f4e2c2ef14d005c1d45ff19911d9e793385298b4b5d7723b69a1ce5876c", func := "loop.example/g00192/laws.FnNumBytes", spec := "fnNumBytes", apart := false }
def FnNumBytesSaid : Prop := fnNumBytesRow.holds Try.pinned (OpenSpec.ofChange fnNumBytesSpec)

/-- ITS FALSE NEIGHBOUR: 'it returns false'. Refute it at one input. -/
def fnNumBytesWrong : ChangeSpec := { name := "fnNumBytes", fn := fun _ => fun
  | [d] => { results := [.lit (.bool false)], args := [d] }
  | _ => none }
def FnNumBytesWrongFalsely : Prop := fnNumBytesRow.holds Try.pinned (OpenSpec.ofChange fnNumBytesWrong)

/-- 'laws.FnExactPackNum': WHATEVER THE INPUT: true; the input reads as it did. -/
def fnExactPackNumSpec : ChangeSpec := { name := "fnExactPackNum", fn := fun _ => fun
  | [d] => { results := [.lit (.bool true)], args := [d] }
  | _ => none }
def fnExactPackNumRow : OpenClaim := { program := "ytgjojajodkagbaa", sum := "9c6e3f4e2c2ef14d005c1d45ff19911d9e793385298b4b5d7723b69a1ce5876c", func := "loop.example/g00192/laws.FnExactPackNum", spec := "fnExactPackNum", apart := false }
def FnExactPackNumSaid : Prop := fnExactPackNumRow.holds Try.pinned (OpenSpec.ofChange fnExactPackNumSpec)

/-- ITS FALSE NEIGHBOUR: 'it returns false'. Refute it at one input. -/
def fnExactPackNumWrong : ChangeSpec := { name := "fnExactPackNum", fn := fun _ => fun
  | [d] => { results := [.lit (.bool false)], args := [d] }
  | _ => none }
def FnExactPackNumWrongFalsely : Prop := fnExactPackNumRow.holds Try.pinned (OpenSpec.ofChange fnExactPackNumWrong)

/-- 'laws.FnExactUnpackNum': WHATEVER THE INPUT: true; the input reads as it did. -/
def fnExactUnpackNumSpec : ChangeSpec := { name := "fnExactUnpackNum", fn := fun _ => fun
  | [d1, d2] => { results := [.lit (.bool true)], args := [d1, d2] }
  | _ => none }
def fnExactUnpackNumRow : OpenClaim := { program := "ytgjojajodkagbaa", sum := "9c6e3f4e2c2ef14d005c1d45ff19911d9e793385298b4b5d7723b69a1ce5876c", func := "loop.example/g00192/laws.FnExactUnpackNum", spec := "fnExactUnpackNum", apart := false }
def FnExactUnpackNumSaid : Prop := fnExactUnpackNumRow.holds Try.pinned (OpenSpec.ofChange fnExactUnpackNumSpec)

/-- ITS FALSE NEIGHBOUR: 'it returns false'. Refute it at one input. -/
def fnExactUnpackNumWrong : ChangeSpec := { name := "fnExactUnpackNum", fn := fun _ => fun
  | [d1, d2] => { results := [.lit (.bool false)], args := [d1, d2] }
  | _ => none }
def FnExactUnpackNumWrongFalsely : Prop := fnExactUnpackNumRow.holds Try.pinned (OpenSpec.ofChange fnExactUnpackNumWrong)

/-- 'laws.FnExactPackFn': WHATEVER THE INPUT: true; the input reads as it did. -/
def fnExactPackFnSpec : ChangeSpec := { name := "fnExactPackFn", fn := fun _ => fun
  | [d] => { results := [.lit (.bool true)], args := [d] }
  | _ => none }
def fnExactPackFnRow : OpenClaim := { program := "ytgjojajodkagbaa", sum := "9c6e3f4e2c2ef14d005c1d45ff19911d9e793385298b4b5d7723b69a1ce5876c", func := "loop.example/g00192/laws.FnExactPackFn", spec := "fnExactPackFn", unfollowed := true, recurses := true, apart := false }
def FnExactPackFnSaid : Prop := fnExactPackFnRow.holds Try.pinned (OpenSpec.ofChange fnExactPackFnSpec)

/-- ITS FALSE NEIGHBOUR: 'it returns false'. Refute it at one input. -/
def fnExactPackFnWrong : ChangeSpec := { name := "fnExactPackFn", fn := fun _ => fun
  | [d] => { results := [.lit (.bool false)], args := [d] }
  | _ => none }
def FnExactPackFnWrongFalsely : Prop := fnExactPackFnRow.holds Try.pinned (OpenSpec.ofChange fnExactPackFnWrong)

/- THE SECOND FORM. 'bulk': how many values and letters a reading holds, each counted each time it is reached (what is shared counts as often as it is met; a slice's spare places count too). A statement '..UptoSaid' is the law's where the arguments, and the package variables that the reading takes, are together of bulk at most 1048576: NARROWER than '..Said'. Prove '..Said' where nothing that the law and all that it calls make is longer than what came in: it says more and counts as full. Else prove '..UptoSaid'. A law counts once. -/
mutual
def uptoBulk {H : Type} : DataW H → Nat
  | .lit (.string bytes) => bytes.length + 1
  | .lit _ => 1
  | .nil => 1
  | .ptr d => uptoBulk d + 1
  | .slice elems spare => uptoBulkAll elems + uptoBulkAll spare + 1
  | .agg parts => uptoBulkAll parts + 1
  | .iface _ d => uptoBulk d + 1
  | .map entries => uptoBulkEntries entries + 1
  | .held _ => 1
def uptoBulkAll {H : Type} : List (DataW H) → Nat
  | [] => 0
  | d :: r => uptoBulk d + uptoBulkAll r
def uptoBulkEntries {H : Type} : List (Lit × DataW H) → Nat
  | [] => 0
  | x :: r => uptoBulkEntry x + uptoBulkEntries r
def uptoBulkEntry {H : Type} : Lit × DataW H → Nat
  | (.string bytes, d) => bytes.length + uptoBulk d + 1
  | (_, d) => uptoBulk d + 1
 end
def uptoSmall : (H : Type) → List (DataW H) → Bool := fun _ ds => decide (uptoBulkAll ds ≤ 1048576)
def OpenSpec.upto (s : _root_.Go.ChangeSpec) : _root_.Go.OpenSpec := { _root_.Go.OpenSpec.ofChange s with cond := some uptoSmall }

/-- 'laws.FnNumBytes', WHERE WHAT IT READS IS OF BULK AT MOST 1048576: true; the input reads as it did. -/
def fnNumBytesUptoRow : OpenClaim := { program := "ytgjojajodkagbaa", sum := "9c6e3f4e2c2ef14d005c1d45ff19911d9e793385298b4b5d7723b69a1ce5876c", func := "loop.example/g00192/laws.FnNumBytes", spec := "fnNumBytes", apart := false, narrowed := true }
def FnNumBytesUptoSaid : Prop := fnNumBytesUptoRow.holds Try.pinned (OpenSpec.upto fnNumBytesSpec)

/-- 'laws.FnExactPackNum', WHERE WHAT IT READS IS OF BULK AT MOST 1048576: true; the input reads as it did. -/
def fnExactPackNumUptoRow : OpenClaim := { program := "ytgjojajodkagbaa", sum := "9c6e3f4e2c2ef14d005c1d45ff19911d9e793385298b4b5d7723b69a1ce5876c", func := "loop.example/g00192/laws.FnExactPackNum", spec := "fnExactPackNum", apart := false, narrowed := true }
def FnExactPackNumUptoSaid : Prop := fnExactPackNumUptoRow.holds Try.pinned (OpenSpec.upto fnExactPackNumSpec)

/-- 'laws.FnExactUnpackNum', WHERE WHAT IT READS IS OF BULK AT MOST 1048576: true; the input reads as it did. -/
def fnExactUnpackNumUptoRow : OpenClaim := { program := "ytgjojajodkagbaa", sum := "9c6e3f4e2c2ef14d005c1d45ff19911d9e793385298b4b5d7723b69a1ce5876c", func := "loop.example/g00192/laws.FnExactUnpackNum", spec := "fnExactUnpackNum", apart := false, narrowed := true }
def FnExactUnpackNumUptoSaid : Prop := fnExactUnpackNumUptoRow.holds Try.pinned (OpenSpec.upto fnExactUnpackNumSpec)

/-- 'laws.FnExactPackFn', WHERE WHAT IT READS IS OF BULK AT MOST 1048576: true; the input reads as it did. -/
def fnExactPackFnUptoRow : OpenClaim := { program := "ytgjojajodkagbaa", sum := "9c6e3f4e2c2ef14d005c1d45ff19911d9e793385298b4b5d7723b69a1ce5876c", func := "loop.example/g00192/laws.FnExactPackFn", spec := "fnExactPackFn", unfollowed := true, recurses := true, apart := false, narrowed := true }
def FnExactPackFnUptoSaid : Prop := fnExactPackFnUptoRow.holds Try.pinned (OpenSpec.upto fnExactPackFnSpec)

end Rows
end Go.Proofs.Ytgjojajodkagbaa
