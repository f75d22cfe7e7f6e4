/-
  No cell of these rows narrows 'for every input' (looked for: loops, veiled, ifaces, maps, wideKeys, modest, calm, conditions, laid).
  DERIVED. THE GIVEN ROWS OF THIS SEAT. 5 by the template 'for every input the law returns true; each argument reads behind the call as it read before'; 0 by the template 'total and deterministic' (their statements: YthkcflicgkppkaaTotals.lean).
  GIVEN WITH THE SEED: the statements are not yours to turn. If you find one false, say at which input.
  Laid BY PROGRAM, IN A SANDBOX (cutbox-rows.mjs): the forced cells as the released guide's own fill.sh prints them over the translation b97e4059b3855b0f… (all of the seat's roots in one cut). By AI agents, Wed Nov 11 2026. No macro, syntax, notation, axiom, sorry.
-/
import Derived.Test.YthkcflicgkppkaaChecked
import GoSem.Claim
import GoSem.ClaimJoined
import GoSem.ClaimMapViews
import Derived.JoinedTies
import Derived.KernelRfl
namespace Go.Proofs.Ythkcflicgkppkaa
/- THE CELL 'sum', in the pinned program and in every row, IS THE sha256 OF THE DUMP (.gsa) THAT YthkcflicgkppkaaProg.lean LOADS. Nothing in Lean hashes anything: it is a label: what it is worth is what the hold of that sum in a sandbox is worth. -/
noncomputable def Try.pinned : Pinned := { name := "ythkcflicgkppkaa", sum := "b97e4059b3855b0f3dda52de07c34ee7aaa9cee9bae555877921c425ff267f06", checked := Try.checked }
namespace Rows
def none {H : Type} : Left H := { results := [], args := [] }

/-- 'laws.FnTakes': WHATEVER THE INPUT: true; the input reads as it did. -/
def fnTakesSpec : ChangeSpec := { name := "fnTakes", fn := fun _ => fun
  | [d] => { results := [.lit (.bool true)], args := [d] }
  | _ => none }
def fnTakesRow : OpenClaim := { program := "ythkcflicgkppkaa", sum := "b97e4059b3855b0f3dda52de07c34ee7aaa9cee9bae555877921c425ff267f06", func := "loop.example/g00192/laws.FnTakes", spec := "fnTakes", apart := false }
def FnTakesSaid : Prop := fnTakesRow.holds Try.pinned (OpenSpec.ofChange fnTakesSpec)

/-- ITS FALSE NEIGHBOUR: 'it returns false'. Refute it at one input. -/
def fnTakesWrong : ChangeSpec := { name := "fnTakes", fn := fun _ => fun
  | [d] => { results := [.lit (.bool false)], args := [d] }
  | _ => none }
def FnTakesWrongFalsely : Prop := fnTakesRow.holds Try.pinned (OpenSpec.ofChange fnTakesWrong)

/-- 'laws.FnExactInsDef': WHATEVER THE INPUT: true; the input reads as it did. -/
def fnExactInsDefSpec : ChangeSpec := { name := "fnExactInsDef", fn := fun _ => fun
  | [d] => { results := [.lit (.bool true)], args := [d] }
  | _ => none }
def fnExactInsDefRow : OpenClaim := { program := "ythkcflicgkppkaa", sum := "b97e4059b3855b0f3dda52de07c34ee7aaa9cee9bae555877921c425ff267f06", func := "loop.example/g00192/laws.FnExactInsDef", spec := "fnExactInsDef", apart := false }
def FnExactInsDefSaid : Prop := fnExactInsDefRow.holds Try.pinned (OpenSpec.ofChange fnExactInsDefSpec)

/-- ITS FALSE NEIGHBOUR: 'it returns false'. Refute it at one input. -/
def fnExactInsDefWrong : ChangeSpec := { name := "fnExactInsDef", fn := fun _ => fun
  | [d] => { results := [.lit (.bool false)], args := [d] }
  | _ => none }
def FnExactInsDefWrongFalsely : Prop := fnExactInsDefRow.holds Try.pinned (OpenSpec.ofChange fnExactInsDefWrong)

/-- 'laws.FnExactInsUses': WHATEVER THE INPUT: true; the input reads as it did. -/
def fnExactInsUsesSpec : ChangeSpec := { name := "fnExactInsUses", fn := fun _ => fun
  | [d] => { results := [.lit (.bool true)], args := [d] }
  | _ => none }
def fnExactInsUsesRow : OpenClaim := { program := "ythkcflicgkppkaa", sum := "b97e4059b3855b0f3dda52de07c34ee7aaa9cee9bae555877921c425ff267f06", func := "loop.example/g00192/laws.FnExactInsUses", spec := "fnExactInsUses", apart := false }
def FnExactInsUsesSaid : Prop := fnExactInsUsesRow.holds Try.pinned (OpenSpec.ofChange fnExactInsUsesSpec)

/-- ITS FALSE NEIGHBOUR: 'it returns false'. Refute it at one input. -/
def fnExactInsUsesWrong : ChangeSpec := { name := "fnExactInsUses", fn := fun _ => fun
  | [d] => { results := [.lit (.bool false)], args := [d] }
  | _ => none }
def FnExactInsUsesWrongFalsely : Prop := fnExactInsUsesRow.holds Try.pinned (OpenSpec.ofChange fnExactInsUsesWrong)

/-- 'laws.FnExactTermUses': WHATEVER THE INPUT: true; the input reads as it did. -/
def fnExactTermUsesSpec : ChangeSpec := { name := "fnExactTermUses", fn := fun _ => fun
  | [d] => { results := [.lit (.bool true)], args := [d] }
  | _ => none }
def fnExactTermUsesRow : OpenClaim := { program := "ythkcflicgkppkaa", sum := "b97e4059b3855b0f3dda52de07c34ee7aaa9cee9bae555877921c425ff267f06", func := "loop.example/g00192/laws.FnExactTermUses", spec := "fnExactTermUses", apart := false }
def FnExactTermUsesSaid : Prop := fnExactTermUsesRow.holds Try.pinned (OpenSpec.ofChange fnExactTermUsesSpec)

/-- ITS FALSE NEIGHBOUR: 'it returns false'. Refute it at one input. -/
def fnExactTermUsesWrong : ChangeSpec := { name := "fnExactTermUses", fn := fun _ => fun
  | [d] => { results := [.lit (.bool false)], args := [d] }
  | _ => none }
def FnExactTermUsesWrongFalsely : Prop := fnExactTermUsesRow.holds Try.pinned (OpenSpec.ofChange fnExactTermUsesWrong)

/-- 'laws.FnExactShapeOk': WHATEVER THE INPUT: true; the input reads as it did. -/
def fnExactShapeOkSpec : ChangeSpec := { name := "fnExactShapeOk", fn := fun _ => fun
  | [d] => { results := [.lit (.bool true)], args := [d] }
  | _ => none }
def fnExactShapeOkRow : OpenClaim := { program := "ythkcflicgkppkaa", sum := "b97e4059b3855b0f3dda52de07c34ee7aaa9cee9bae555877921c425ff267f06", func := "loop.example/g00192/laws.FnExactShapeOk", spec := "fnExactShapeOk", unfollowed := true, recurses := true, apart := false }
def FnExactShapeOkSaid : Prop := fnExactShapeOkRow.holds Try.pinned (OpenSpec.ofChange fnExactShapeOkSpec)

/-- ITS FALSE NEIGHBOUR: 'it returns false'. Refute it at one input. -/
def fnExactShapeOkWrong : ChangeSpec := { name := "fnExactShapeOk", fn := fun _ => fun
  | [d] => { results := [.lit (.bool false)], args := [d] }
  | _ => none }
def FnExactShapeOkWrongFalsely : Prop := fnExactShapeOkRow.holds Try.pinned (OpenSpec.ofChange fnExactShapeOkWrong)

/- THE SECOND FORM. 'bulk': how many values and letters a reading holds, each counted each time it is reached (what is shared counts as often as it is met; a slice's spare places count too). A statement '..UptoSaid' is the law's where the arguments, and the package variables that the reading takes, are together of bulk at most 1048576: NARROWER than '..Said'. Prove '..Said' where nothing that the law and all that it calls make is longer than what came in: it says more and counts as full. Else prove '..UptoSaid'. A law counts once. -/
mutual
def uptoBulk {H : Type} : DataW H → Nat
  | .lit (.string bytes) => bytes.length + 1
  | .lit _ => 1
  | .nil => 1
  | .ptr d => uptoBulk d + 1
  | .slice elems spare => uptoBulkAll elems + uptoBulkAll spare + 1
  | .agg parts => uptoBulkAll parts + 1
  | .iface _ d => uptoBulk d + 1
  | .map entries => uptoBulkEntries entries + 1
  | .held _ => 1
def uptoBulkAll {H : Type} : List (DataW H) → Nat
  | [] => 0
  | d :: r => uptoBulk d + uptoBulkAll r
def uptoBulkEntries {H : Type} : List (Lit × DataW H) → Nat
  | [] => 0
  | x :: r => uptoBulkEntry x + uptoBulkEntries r
def uptoBulkEntry {H : Type} : Lit × DataW H → Nat
  | (.string bytes, d) => bytes.length + uptoBulk d + 1
  | (_, d) => uptoBulk d + 1
 end
def uptoSmall : (H : Type) → List (DataW H) → Bool := fun _ ds => decide (uptoBulkAll ds ≤ 1048576)
def OpenSpec.upto (s : _root_.Go.ChangeSpec) : _root_.Go.OpenSpec := { _root_.Go.OpenSpec.ofChange s with cond := some uptoSmall }

/-- 'laws.FnTakes', WHERE WHAT IT READS IS OF BULK AT MOST 1048576: true; the input reads as it did. -/
def fnTakesUptoRow : OpenClaim := { program := "ythkcflicgkppkaa", sum := "b97e4059b3855b0f3dda52de07c34ee7aaa9cee9bae555877921c425ff267f06", func := "loop.example/g00192/laws.FnTakes", spec := "fnTakes", apart := false, narrowed := true }
def FnTakesUptoSaid : Prop := fnTakesUptoRow.holds Try.pinned (OpenSpec.upto fnTakesSpec)

/-- 'laws.FnExactInsDef', WHERE WHAT IT READS IS OF BULK AT MOST 1048576: true; the input reads as it did. -/
def fnExactInsDefUptoRow : OpenClaim := { program := "ythkcflicgkppkaa", sum := "b97e4059b3855b0f3dda52de07c34ee7aaa9cee9bae555877921c425ff267f06", func := "loop.example/g00192/laws.FnExactInsDef", spec := "fnExactInsDef", apart := false, narrowed := true }
def FnExactInsDefUptoSaid : Prop := fnExactInsDefUptoRow.holds Try.pinned (OpenSpec.upto fnExactInsDefSpec)

/-- 'laws.FnExactInsUses', WHERE WHAT IT READS IS OF BULK AT MOST 1048576: true; the input reads as it did. -/
def fnExactInsUsesUptoRow : OpenClaim := { program := "ythkcflicgkppkaa", sum := "b97e4059b3855b0f3dda52de07c34ee7aaa9cee9bae555877921c425ff267f06", func := "loop.example/g00192/laws.FnExactInsUses", spec := "fnExactInsUses", apart := false, narrowed := true }
def FnExactInsUsesUptoSaid : Prop := fnExactInsUsesUptoRow.holds Try.pinned (OpenSpec.upto fnExactInsUsesSpec)

/-- 'laws.FnExactTermUses', WHERE WHAT IT READS IS OF BULK AT MOST 1048576: true; the input reads as it did. -/
def fnExactTermUsesUptoRow : OpenClaim := { program := "ythkcflicgkppkaa", sum := "b97e4059b3855b0f3dda52de07c34ee7aaa9cee9bae555877921c425ff267f06", func := "loop.example/g00192/laws.FnExactTermUses", spec := "fnExactTermUses", apart := false, narrowed := true }
def FnExactTermUsesUptoSaid : Prop := fnExactTermUsesUptoRow.holds Try.pinned (OpenSpec.upto fnExactTermUsesSpec)

/-- 'laws.FnExactShapeOk', WHERE WHAT IT READS IS OF BULK AT MOST 1048576: true; the input reads as it did. -/
def fnExactShapeOkUptoRow : OpenClaim := { program := "ythkcflicgkppkaa", sum := "b97e4059b3855b0f3dda52de07c34ee7aaa9cee9bae555877921c425ff267f06", func := "loop.example/g00192/laws.FnExactShapeOk", spec := "fnExactShapeOk", unfollowed := true, recurses := true, apart := false, narrowed := true }
def FnExactShapeOkUptoSaid : Prop := fnExactShapeOkUptoRow.holds Try.pinned (OpenSpec.upto fnExactShapeOkSpec)

end Rows
end Go.Proofs.Ythkcflicgkppkaa
