/-
  No cell of these rows narrows 'for every input' (looked for: loops, veiled, ifaces, maps, wideKeys, modest, calm, conditions, laid).
  DERIVED. THE GIVEN ROWS OF THIS SEAT. 6 by the template 'for every input the law returns true; each argument reads behind the call as it read before'; 0 by the template 'total and deterministic' (their statements: YtijihgkhdknkeaaTotals.lean).
  GIVEN WITH THE SEED: the statements are not yours to turn. If you find one false, say at which input.
  Laid BY PROGRAM, IN A SANDBOX (cutbox-rows.mjs): the forced cells as the released guide's own fill.sh prints them over the translation 8c81d8dc4b5afd94… (all of the seat's roots in one cut). By AI agents, Wed Nov 11 2026. No macro, syntax, notation, axiom, sorry.
-/
import Derived.Test.YtijihgkhdknkeaaChecked
import GoSem.Claim
import GoSem.ClaimJoined
import GoSem.ClaimMapViews
import Derived.JoinedTies
import Derived.KernelRfl
namespace Go.Proofs.Ytijihgkhdknkeaa
/- THE CELL 'sum', in the pinned program and in every row, IS THE sha256 OF THE DUMP (.gsa) THAT YtijihgkhdknkeaaProg.lean LOADS. Nothing in Lean hashes anything: it is a label: what it is worth is what the hold of that sum in a sandbox is worth. -/
noncomputable def Try.pinned : Pinned := { name := "ytijihgkhdknkeaa", sum := "8c81d8dc4b5afd94197012a9f248e4cf05bafe1662c2b9c753d32347d2836574", checked := Try.checked }
namespace Rows
def none {H : Type} : Left H := { results := [], args := [] }

/-- 'laws.FnMoves': WHATEVER THE INPUT: true; the input reads as it did. -/
def fnMovesSpec : ChangeSpec := { name := "fnMoves", fn := fun _ => fun
  | [d] => { results := [.lit (.bool true)], args := [d] }
  | _ => none }
def fnMovesRow : OpenClaim := { program := "ytijihgkhdknkeaa", sum := "8c81d8dc4b5afd94197012a9f248e4cf05bafe1662c2b9c753d32347d2836574", func := "loop.example/g00192/laws.FnMoves", spec := "fnMoves", recurses := true, apart := false }
def FnMovesSaid : Prop := fnMovesRow.holds Try.pinned (OpenSpec.ofChange fnMovesSpec)

/-- ITS FALSE NEIGHBOUR: 'it returns false'. Refute it at one input. -/
def fnMovesWrong : ChangeSpec := { name := "fnMoves", fn := fun _ => fun
  | [d] => { results := [.lit (.bool false)], args := [d] }
  | _ => none }
def FnMovesWrongFalsely : Prop := fnMovesRow.holds Try.pinned (OpenSpec.ofChange fnMovesWrong)

/-- 'laws.FnEach': WHATEVER THE INPUT: true; the input reads as it did. -/
def fnEachSpec : ChangeSpec := { name := "fnEach", fn := fun _ => fun
  | [d] => { results := [.lit (.bool true)], args := [d] }
  | _ => none }
def fnEachRow : OpenClaim := { program := "ytijihgkhdknkeaa", sum := "8c81d8dc4b5afd94197012a9f248e4cf05bafe1662c2b9c753d32347d2836574", func := "loop.example/g00192/laws.FnEach", spec := "fnEach", apart := false }
def FnEachSaid : Prop := fnEachRow.holds Try.pinned (OpenSpec.ofChange fnEachSpec)

/-- ITS FALSE NEIGHBOUR: 'it returns false'. Refute it at one input. -/
def fnEachWrong : ChangeSpec := { name := "fnEach", fn := fun _ => fun
  | [d] => { results := [.lit (.bool false)], args := [d] }
  | _ => none }
def FnEachWrongFalsely : Prop := fnEachRow.holds Try.pinned (OpenSpec.ofChange fnEachWrong)

/-- 'laws.FnExactMovesOk': WHATEVER THE INPUT: true; the input reads as it did. -/
def fnExactMovesOkSpec : ChangeSpec := { name := "fnExactMovesOk", fn := fun _ => fun
  | [d1, d2] => { results := [.lit (.bool true)], args := [d1, d2] }
  | _ => none }
def fnExactMovesOkRow : OpenClaim := { program := "ytijihgkhdknkeaa", sum := "8c81d8dc4b5afd94197012a9f248e4cf05bafe1662c2b9c753d32347d2836574", func := "loop.example/g00192/laws.FnExactMovesOk", spec := "fnExactMovesOk", apart := false }
def FnExactMovesOkSaid : Prop := fnExactMovesOkRow.holds Try.pinned (OpenSpec.ofChange fnExactMovesOkSpec)

/-- ITS FALSE NEIGHBOUR: 'it returns false'. Refute it at one input. -/
def fnExactMovesOkWrong : ChangeSpec := { name := "fnExactMovesOk", fn := fun _ => fun
  | [d1, d2] => { results := [.lit (.bool false)], args := [d1, d2] }
  | _ => none }
def FnExactMovesOkWrongFalsely : Prop := fnExactMovesOkRow.holds Try.pinned (OpenSpec.ofChange fnExactMovesOkWrong)

/-- 'laws.FnExactMovesDo': WHATEVER THE INPUT: true; the input reads as it did. -/
def fnExactMovesDoSpec : ChangeSpec := { name := "fnExactMovesDo", fn := fun _ => fun
  | [d1, d2] => { results := [.lit (.bool true)], args := [d1, d2] }
  | _ => none }
def fnExactMovesDoRow : OpenClaim := { program := "ytijihgkhdknkeaa", sum := "8c81d8dc4b5afd94197012a9f248e4cf05bafe1662c2b9c753d32347d2836574", func := "loop.example/g00192/laws.FnExactMovesDo", spec := "fnExactMovesDo", apart := false }
def FnExactMovesDoSaid : Prop := fnExactMovesDoRow.holds Try.pinned (OpenSpec.ofChange fnExactMovesDoSpec)

/-- ITS FALSE NEIGHBOUR: 'it returns false'. Refute it at one input. -/
def fnExactMovesDoWrong : ChangeSpec := { name := "fnExactMovesDo", fn := fun _ => fun
  | [d1, d2] => { results := [.lit (.bool false)], args := [d1, d2] }
  | _ => none }
def FnExactMovesDoWrongFalsely : Prop := fnExactMovesDoRow.holds Try.pinned (OpenSpec.ofChange fnExactMovesDoWrong)

/-- 'laws.FnExactMovesEach': WHATEVER THE INPUT: true; the input reads as it did. -/
def fnExactMovesEachSpec : ChangeSpec := { name := "fnExactMovesEach", fn := fun _ => fun
  | [d1, d2] => { results := [.lit (.bool true)], args := [d1, d2] }
  | _ => none }
def fnExactMovesEachRow : OpenClaim := { program := "ytijihgkhdknkeaa", sum := "8c81d8dc4b5afd94197012a9f248e4cf05bafe1662c2b9c753d32347d2836574", func := "loop.example/g00192/laws.FnExactMovesEach", spec := "fnExactMovesEach", apart := false }
def FnExactMovesEachSaid : Prop := fnExactMovesEachRow.holds Try.pinned (OpenSpec.ofChange fnExactMovesEachSpec)

/-- ITS FALSE NEIGHBOUR: 'it returns false'. Refute it at one input. -/
def fnExactMovesEachWrong : ChangeSpec := { name := "fnExactMovesEach", fn := fun _ => fun
  | [d1, d2] => { results := [.lit (.bool false)], args := [d1, d2] }
  | _ => none }
def FnExactMovesEachWrongFalsely : Prop := fnExactMovesEachRow.holds Try.pinned (OpenSpec.ofChange fnExactMovesEachWrong)

/-- 'laws.FnExactSequence': WHATEVER THE INPUT: true; the input reads as it did. -/
def fnExactSequenceSpec : ChangeSpec := { name := "fnExactSequence", fn := fun _ => fun
  | [d1, d2] => { results := [.lit (.bool true)], args := [d1, d2] }
  | _ => none }
def fnExactSequenceRow : OpenClaim := { program := "ytijihgkhdknkeaa", sum := "8c81d8dc4b5afd94197012a9f248e4cf05bafe1662c2b9c753d32347d2836574", func := "loop.example/g00192/laws.FnExactSequence", spec := "fnExactSequence", recurses := true, apart := false }
def FnExactSequenceSaid : Prop := fnExactSequenceRow.holds Try.pinned (OpenSpec.ofChange fnExactSequenceSpec)

/-- ITS FALSE NEIGHBOUR: 'it returns false'. Refute it at one input. -/
def fnExactSequenceWrong : ChangeSpec := { name := "fnExactSequence", fn := fun _ => fun
  | [d1, d2] => { results := [.lit (.bool false)], args := [d1, d2] }
  | _ => none }
def FnExactSequenceWrongFalsely : Prop := fnExactSequenceRow.holds Try.pinned (OpenSpec.ofChange fnExactSequenceWrong)

/- THE SECOND FORM. 'bulk': how many values and letters a reading holds, each counted each time it is reached (what is shared counts as often as it is met; a slice's spare places count too). A statement '..UptoSaid' is the law's where the arguments, and the package variables that the reading takes, are together of bulk at most 1048576: NARROWER than '..Said'. Prove '..Said' where nothing that the law and all that it calls make is longer than what came in: it says more and counts as full. Else prove '..UptoSaid'. A law counts once. -/
mutual
def uptoBulk {H : Type} : DataW H → Nat
  | .lit (.string bytes) => bytes.length + 1
  | .lit _ => 1
  | .nil => 1
  | .ptr d => uptoBulk d + 1
  | .slice elems spare => uptoBulkAll elems + uptoBulkAll spare + 1
  | .agg parts => uptoBulkAll parts + 1
  | .iface _ d => uptoBulk d + 1
  | .map entries => uptoBulkEntries entries + 1
  | .held _ => 1
def uptoBulkAll {H : Type} : List (DataW H) → Nat
  | [] => 0
  | d :: r => uptoBulk d + uptoBulkAll r
def uptoBulkEntries {H : Type} : List (Lit × DataW H) → Nat
  | [] => 0
  | x :: r => uptoBulkEntry x + uptoBulkEntries r
def uptoBulkEntry {H : Type} : Lit × DataW H → Nat
  | (.string bytes, d) => bytes.length + uptoBulk d + 1
  | (_, d) => uptoBulk d + 1
 end
def uptoSmall : (H : Type) → List (DataW H) → Bool := fun _ ds => decide (uptoBulkAll ds ≤ 1048576)
def OpenSpec.upto (s : _root_.Go.ChangeSpec) : _root_.Go.OpenSpec := { _root_.Go.OpenSpec.ofChange s with cond := some uptoSmall }

/-- 'laws.FnMoves', WHERE WHAT IT READS IS OF BULK AT MOST 1048576: true; the input reads as it did. -/
def fnMovesUptoRow : OpenClaim := { program := "ytijihgkhdknkeaa", sum := "8c81d8dc4b5afd94197012a9f248e4cf05bafe1662c2b9c753d32347d2836574", func := "loop.example/g00192/laws.FnMoves", spec := "fnMoves", recurses := true, apart := false, narrowed := true }
def FnMovesUptoSaid : Prop := fnMovesUptoRow.holds Try.pinned (OpenSpec.upto fnMovesSpec)

/-- 'laws.FnEach', WHERE WHAT IT READS IS OF BULK AT MOST 1048576: true; the input reads as it did. -/
def fnEachUptoRow : OpenClaim := { program := "ytijihgkhdknkeaa", sum := "8c81d8dc4b5afd94197012a9f248e4cf05bafe1662c2b9c753d32347d2836574", func := "loop.example/g00192/laws.FnEach", spec := "fnEach", apart := false, narrowed := true }
def FnEachUptoSaid : Prop := fnEachUptoRow.holds Try.pinned (OpenSpec.upto fnEachSpec)

/-- 'laws.FnExactMovesOk', WHERE WHAT IT READS IS OF BULK AT MOST 1048576: true; the input reads as it did. -/
def fnExactMovesOkUptoRow : OpenClaim := { program := "ytijihgkhdknkeaa", sum := "8c81d8dc4b5afd94197012a9f248e4cf05bafe1662c2b9c753d32347d2836574", func := "loop.example/g00192/laws.FnExactMovesOk", spec := "fnExactMovesOk", apart := false, narrowed := true }
def FnExactMovesOkUptoSaid : Prop := fnExactMovesOkUptoRow.holds Try.pinned (OpenSpec.upto fnExactMovesOkSpec)

/-- 'laws.FnExactMovesDo', WHERE WHAT IT READS IS OF BULK AT MOST 1048576: true; the input reads as it did. -/
def fnExactMovesDoUptoRow : OpenClaim := { program := "ytijihgkhdknkeaa", sum := "8c81d8dc4b5afd94197012a9f248e4cf05bafe1662c2b9c753d32347d2836574", func := "loop.example/g00192/laws.FnExactMovesDo", spec := "fnExactMovesDo", apart := false, narrowed := true }
def FnExactMovesDoUptoSaid : Prop := fnExactMovesDoUptoRow.holds Try.pinned (OpenSpec.upto fnExactMovesDoSpec)

/-- 'laws.FnExactMovesEach', WHERE WHAT IT READS IS OF BULK AT MOST 1048576: true; the input reads as it did. -/
def fnExactMovesEachUptoRow : OpenClaim := { program := "ytijihgkhdknkeaa", sum := "8c81d8dc4b5afd94197012a9f248e4cf05bafe1662c2b9c753d32347d2836574", func := "loop.example/g00192/laws.FnExactMovesEach", spec := "fnExactMovesEach", apart := false, narrowed := true }
def FnExactMovesEachUptoSaid : Prop := fnExactMovesEachUptoRow.holds Try.pinned (OpenSpec.upto fnExactMovesEachSpec)

/-- 'laws.FnExactSequence', WHERE WHAT IT READS IS OF BULK AT MOST 1048576: true; the input reads as it did. -/
def fnExactSequenceUptoRow : OpenClaim := { program := "ytijihgkhdknkeaa", sum := "8c81d8dc4b5afd94197012a9f248e4cf05bafe1662c2b9c753d32347d2836574", func := "loop.example/g00192/laws.FnExactSequence", spec := "fnExactSequence", recurses := true, apart := false, narrowed := true }
def FnExactSequenceUptoSaid : Prop := fnExactSequenceUptoRow.holds Try.pinned (OpenSpec.upto fnExactSequenceSpec)

end Rows
end Go.Proofs.Ytijihgkhdknkeaa
