/-
  No cell of these rows narrows 'for every input' (looked for: loops, veiled, ifaces, maps, wideKeys, modest, calm, conditions, laid).
  DERIVED. THE GIVEN ROWS OF THIS SEAT. 6 by the template 'for every input the law returns true; each argument reads behind the call as it read before'; 0 by the template 'total and deterministic' (their statements: YtefnlmohminhbaaGreatTotals.lean).
  GIVEN WITH THE SEED: the statements are not yours to turn. If you find one false, say at which input.
  Laid BY PROGRAM, IN A SANDBOX (cutbox-rows.mjs): the forced cells as the released guide's own fill.sh prints them over the translation 55933062d7d88b9b… (all of the seat's roots in one cut). By AI agents, Wed Nov 11 2026. No macro, syntax, notation, axiom, sorry.
-/
import Derived.Test.YtefnlmohminhbaaGreatChecked
import GoSem.Claim
import GoSem.ClaimJoined
import GoSem.ClaimMapViews
import Derived.JoinedTies
import Derived.KernelRfl
namespace Go.Proofs.YtefnlmohminhbaaGreat
/- THE CELL 'sum', in the pinned program and in every row, IS THE sha256 OF THE DUMP (.gsa) THAT YtefnlmohminhbaaGreatProg.lean LOADS. Nothing in Lean hashes anything: it is a label: what it is worth is what the hold of that sum in a sandbox is worth. -/
noncomputable def Tryz.pinned : Pinned := { name := "ytefnlmohminhbaagreat", sum := "55933062d7d88b9bd1334c126c769bcd3b56a6e6b8f880724422071e0fd4fbb7", checked := Tryz.checked }
namespace Rows
def none {H : Type} : Left H := { results := [], args := [] }

/-- 'laws.FnLive': WHATEVER THE INPUT: true; the input reads as it did. -/
def fnLiveSpec : ChangeSpec := { name := "fnLive", fn := fun _ => fun
  | [d] => { results := [.lit (.bool true)], args := [d] }
  | _ => none }
def fnLiveRow : OpenClaim := { program := "ytefnlmohminhbaagreat", sum := "55933062d7d88b9bd1334c126c769bcd3b56a6e6b8f880724422071e0fd4fbb7", func := "loop.example/g00192/laws.FnLive", spec := "fnLive", inPlace := ["slices.overlaps[int]"], unfollowed := true, recurses := true, apart := false }
def FnLiveSaid : Prop := fnLiveRow.holds Tryz.pinned (OpenSpec.ofChange fnLiveSpec)

/-- ITS FALSE NEIGHBOUR: 'it returns false'. Refute it at one input. -/
def fnLiveWrong : ChangeSpec := { name := "fnLive", fn := fun _ => fun
  | [d] => { results := [.lit (.bool false)], args := [d] }
  | _ => none }
def FnLiveWrongFalsely : Prop := fnLiveRow.holds Tryz.pinned (OpenSpec.ofChange fnLiveWrong)

/-- 'laws.FnLiveAt': WHATEVER THE INPUT: true; the input reads as it did. -/
def fnLiveAtSpec : ChangeSpec := { name := "fnLiveAt", fn := fun _ => fun
  | [d] => { results := [.lit (.bool true)], args := [d] }
  | _ => none }
def fnLiveAtRow : OpenClaim := { program := "ytefnlmohminhbaagreat", sum := "55933062d7d88b9bd1334c126c769bcd3b56a6e6b8f880724422071e0fd4fbb7", func := "loop.example/g00192/laws.FnLiveAt", spec := "fnLiveAt", inPlace := ["slices.overlaps[int]"], unfollowed := true, recurses := true, apart := false }
def FnLiveAtSaid : Prop := fnLiveAtRow.holds Tryz.pinned (OpenSpec.ofChange fnLiveAtSpec)

/-- ITS FALSE NEIGHBOUR: 'it returns false'. Refute it at one input. -/
def fnLiveAtWrong : ChangeSpec := { name := "fnLiveAt", fn := fun _ => fun
  | [d] => { results := [.lit (.bool false)], args := [d] }
  | _ => none }
def FnLiveAtWrongFalsely : Prop := fnLiveAtRow.holds Tryz.pinned (OpenSpec.ofChange fnLiveAtWrong)

/-- 'laws.FnBusy': WHATEVER THE INPUT: true; the input reads as it did. -/
def fnBusySpec : ChangeSpec := { name := "fnBusy", fn := fun _ => fun
  | [d] => { results := [.lit (.bool true)], args := [d] }
  | _ => none }
def fnBusyRow : OpenClaim := { program := "ytefnlmohminhbaagreat", sum := "55933062d7d88b9bd1334c126c769bcd3b56a6e6b8f880724422071e0fd4fbb7", func := "loop.example/g00192/laws.FnBusy", spec := "fnBusy", inPlace := ["slices.overlaps[int]"], unfollowed := true, recurses := true, apart := false }
def FnBusySaid : Prop := fnBusyRow.holds Tryz.pinned (OpenSpec.ofChange fnBusySpec)

/-- ITS FALSE NEIGHBOUR: 'it returns false'. Refute it at one input. -/
def fnBusyWrong : ChangeSpec := { name := "fnBusy", fn := fun _ => fun
  | [d] => { results := [.lit (.bool false)], args := [d] }
  | _ => none }
def FnBusyWrongFalsely : Prop := fnBusyRow.holds Tryz.pinned (OpenSpec.ofChange fnBusyWrong)

/-- 'laws.FnExactLiveIn': WHATEVER THE INPUT: true; the input reads as it did. -/
def fnExactLiveInSpec : ChangeSpec := { name := "fnExactLiveIn", fn := fun _ => fun
  | [d] => { results := [.lit (.bool true)], args := [d] }
  | _ => none }
def fnExactLiveInRow : OpenClaim := { program := "ytefnlmohminhbaagreat", sum := "55933062d7d88b9bd1334c126c769bcd3b56a6e6b8f880724422071e0fd4fbb7", func := "loop.example/g00192/laws.FnExactLiveIn", spec := "fnExactLiveIn", inPlace := ["slices.overlaps[int]"], unfollowed := true, recurses := true, apart := false }
def FnExactLiveInSaid : Prop := fnExactLiveInRow.holds Tryz.pinned (OpenSpec.ofChange fnExactLiveInSpec)

/-- ITS FALSE NEIGHBOUR: 'it returns false'. Refute it at one input. -/
def fnExactLiveInWrong : ChangeSpec := { name := "fnExactLiveIn", fn := fun _ => fun
  | [d] => { results := [.lit (.bool false)], args := [d] }
  | _ => none }
def FnExactLiveInWrongFalsely : Prop := fnExactLiveInRow.holds Tryz.pinned (OpenSpec.ofChange fnExactLiveInWrong)

/-- 'laws.FnExactLiveOut': WHATEVER THE INPUT: true; the input reads as it did. -/
def fnExactLiveOutSpec : ChangeSpec := { name := "fnExactLiveOut", fn := fun _ => fun
  | [d] => { results := [.lit (.bool true)], args := [d] }
  | _ => none }
def fnExactLiveOutRow : OpenClaim := { program := "ytefnlmohminhbaagreat", sum := "55933062d7d88b9bd1334c126c769bcd3b56a6e6b8f880724422071e0fd4fbb7", func := "loop.example/g00192/laws.FnExactLiveOut", spec := "fnExactLiveOut", inPlace := ["slices.overlaps[int]"], unfollowed := true, recurses := true, apart := false }
def FnExactLiveOutSaid : Prop := fnExactLiveOutRow.holds Tryz.pinned (OpenSpec.ofChange fnExactLiveOutSpec)

/-- ITS FALSE NEIGHBOUR: 'it returns false'. Refute it at one input. -/
def fnExactLiveOutWrong : ChangeSpec := { name := "fnExactLiveOut", fn := fun _ => fun
  | [d] => { results := [.lit (.bool false)], args := [d] }
  | _ => none }
def FnExactLiveOutWrongFalsely : Prop := fnExactLiveOutRow.holds Tryz.pinned (OpenSpec.ofChange fnExactLiveOutWrong)

/-- 'laws.FnExactLiveAt': WHATEVER THE INPUT: true; the input reads as it did. -/
def fnExactLiveAtSpec : ChangeSpec := { name := "fnExactLiveAt", fn := fun _ => fun
  | [d1, d2, d3] => { results := [.lit (.bool true)], args := [d1, d2, d3] }
  | _ => none }
def fnExactLiveAtRow : OpenClaim := { program := "ytefnlmohminhbaagreat", sum := "55933062d7d88b9bd1334c126c769bcd3b56a6e6b8f880724422071e0fd4fbb7", func := "loop.example/g00192/laws.FnExactLiveAt", spec := "fnExactLiveAt", inPlace := ["slices.overlaps[int]"], unfollowed := true, recurses := true, apart := false }
def FnExactLiveAtSaid : Prop := fnExactLiveAtRow.holds Tryz.pinned (OpenSpec.ofChange fnExactLiveAtSpec)

/-- ITS FALSE NEIGHBOUR: 'it returns false'. Refute it at one input. -/
def fnExactLiveAtWrong : ChangeSpec := { name := "fnExactLiveAt", fn := fun _ => fun
  | [d1, d2, d3] => { results := [.lit (.bool false)], args := [d1, d2, d3] }
  | _ => none }
def FnExactLiveAtWrongFalsely : Prop := fnExactLiveAtRow.holds Tryz.pinned (OpenSpec.ofChange fnExactLiveAtWrong)

/- THE SECOND FORM. 'bulk': how many values and letters a reading holds, each counted each time it is reached (what is shared counts as often as it is met; a slice's spare places count too). A statement '..UptoSaid' is the law's where the arguments, and the package variables that the reading takes, are together of bulk at most 1048576: NARROWER than '..Said'. Prove '..Said' where nothing that the law and all that it calls make is longer than what came in: it says more and counts as full. Else prove '..UptoSaid'. A law counts once. -/
mutual
def uptoBulk {H : Type} : DataW H → Nat
  | .lit (.string bytes) => bytes.length + 1
  | .lit _ => 1
  | .nil => 1
  | .ptr d => uptoBulk d + 1
  | .slice elems spare => uptoBulkAll elems + uptoBulkAll spare + 1
  | .agg parts => uptoBulkAll parts + 1
  | .iface _ d => uptoBulk d + 1
  | .map entries => uptoBulkEntries entries + 1
  | .held _ => 1
def uptoBulkAll {H : Type} : List (DataW H) → Nat
  | [] => 0
  | d :: r => uptoBulk d + uptoBulkAll r
def uptoBulkEntries {H : Type} : List (Lit × DataW H) → Nat
  | [] => 0
  | x :: r => uptoBulkEntry x + uptoBulkEntries r
def uptoBulkEntry {H : Type} : Lit × DataW H → Nat
  | (.string bytes, d) => bytes.length + uptoBulk d + 1
  | (_, d) => uptoBulk d + 1
 end
def uptoSmall : (H : Type) → List (DataW H) → Bool := fun _ ds => decide (uptoBulkAll ds ≤ 1048576)
def OpenSpec.upto (s : _root_.Go.ChangeSpec) : _root_.Go.OpenSpec := { _root_.Go.OpenSpec.ofChange s with cond := some uptoSmall }

/-- 'laws.FnLive', WHERE WHAT IT READS IS OF BULK AT MOST 1048576: true; the input reads as it did. -/
def fnLiveUptoRow : OpenClaim := { program := "ytefnlmohminhbaagreat", sum := "55933062d7d88b9bd1334c126c769bcd3b56a6e6b8f880724422071e0fd4fbb7", func := "loop.example/g00192/laws.FnLive", spec := "fnLive", inPlace := ["slices.overlaps[int]"], unfollowed := true, recurses := true, apart := false, narrowed := true }
def FnLiveUptoSaid : Prop := fnLiveUptoRow.holds Tryz.pinned (OpenSpec.upto fnLiveSpec)

/-- 'laws.FnLiveAt', WHERE WHAT IT READS IS OF BULK AT MOST 1048576: true; the input reads as it did. -/
def fnLiveAtUptoRow : OpenClaim := { program := "ytefnlmohminhbaagreat", sum := "55933062d7d88b9bd1334c126c769bcd3b56a6e6b8f880724422071e0fd4fbb7", func := "loop.example/g00192/laws.FnLiveAt", spec := "fnLiveAt", inPlace := ["slices.overlaps[int]"], unfollowed := true, recurses := true, apart := false, narrowed := true }
def FnLiveAtUptoSaid : Prop := fnLiveAtUptoRow.holds Tryz.pinned (OpenSpec.upto fnLiveAtSpec)

/-- 'laws.FnBusy', WHERE WHAT IT READS IS OF BULK AT MOST 1048576: true; the input reads as it did. -/
def fnBusyUptoRow : OpenClaim := { program := "ytefnlmohminhbaagreat", sum := "55933062d7d88b9bd1334c126c769bcd3b56a6e6b8f880724422071e0fd4fbb7", func := "loop.example/g00192/laws.FnBusy", spec := "fnBusy", inPlace := ["slices.overlaps[int]"], unfollowed := true, recurses := true, apart := false, narrowed := true }
def FnBusyUptoSaid : Prop := fnBusyUptoRow.holds Tryz.pinned (OpenSpec.upto fnBusySpec)

/-- 'laws.FnExactLiveIn', WHERE WHAT IT READS IS OF BULK AT MOST 1048576: true; the input reads as it did. -/
def fnExactLiveInUptoRow : OpenClaim := { program := "ytefnlmohminhbaagreat", sum := "55933062d7d88b9bd1334c126c769bcd3b56a6e6b8f880724422071e0fd4fbb7", func := "loop.example/g00192/laws.FnExactLiveIn", spec := "fnExactLiveIn", inPlace := ["slices.overlaps[int]"], unfollowed := true, recurses := true, apart := false, narrowed := true }
def FnExactLiveInUptoSaid : Prop := fnExactLiveInUptoRow.holds Tryz.pinned (OpenSpec.upto fnExactLiveInSpec)

/-- 'laws.FnExactLiveOut', WHERE WHAT IT READS IS OF BULK AT MOST 1048576: true; the input reads as it did. -/
def fnExactLiveOutUptoRow : OpenClaim := { program := "ytefnlmohminhbaagreat", sum := "55933062d7d88b9bd1334c126c769bcd3b56a6e6b8f880724422071e0fd4fbb7", func := "loop.example/g00192/laws.FnExactLiveOut", spec := "fnExactLiveOut", inPlace := ["slices.overlaps[int]"], unfollowed := true, recurses := true, apart := false, narrowed := true }
def FnExactLiveOutUptoSaid : Prop := fnExactLiveOutUptoRow.holds Tryz.pinned (OpenSpec.upto fnExactLiveOutSpec)

/-- 'laws.FnExactLiveAt', WHERE WHAT IT READS IS OF BULK AT MOST 1048576: true; the input reads as it did. -/
def fnExactLiveAtUptoRow : OpenClaim := { program := "ytefnlmohminhbaagreat", sum := "55933062d7d88b9bd1334c126c769bcd3b56a6e6b8f880724422071e0fd4fbb7", func := "loop.example/g00192/laws.FnExactLiveAt", spec := "fnExactLiveAt", inPlace := ["slices.overlaps[int]"], unfollowed := true, recurses := true, apart := false, narrowed := true }
def FnExactLiveAtUptoSaid : Prop := fnExactLiveAtUptoRow.holds Tryz.pinned (OpenSpec.upto fnExactLiveAtSpec)

end Rows
end Go.Proofs.YtefnlmohminhbaaGreat
