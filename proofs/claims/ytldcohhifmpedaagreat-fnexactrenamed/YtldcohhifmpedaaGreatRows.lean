/-
  No cell of these rows narrows 'for every input' (looked for: loops, veiled, ifaces, maps, wideKeys, modest, calm, conditions, laid).
  DERIVED. THE GIVEN ROWS OF THIS SEAT. 10 by the template 'for every input the law returns true; each argument reads behind the call as it read before'; 0 by the template 'total and deterministic' (their statements: YtldcohhifmpedaaGreatTotals.lean).
  GIVEN WITH THE SEED: the statements are not yours to turn. If you find one false, say at which input.
  Laid BY PROGRAM, IN A SANDBOX (cutbox-rows.mjs): the forced cells as the released guide's own fill.sh prints them over the translation be9a07175a56a973… (all of the seat's roots in one cut). By AI agents, Wed Nov 11 2026. No macro, syntax, notation, axiom, sorry.
-/
import Derived.Test.YtldcohhifmpedaaGreatChecked
import GoSem.Claim
import GoSem.ClaimJoined
import GoSem.ClaimMapViews
import Derived.JoinedTies
import Derived.KernelRfl
namespace Go.Proofs.YtldcohhifmpedaaGreat
/- THE CELL 'sum', in the pinned program and in every row, IS THE sha256 OF THE DUMP (.gsa) THAT YtldcohhifmpedaaGreatProg.lean LOADS. Nothing in Lean hashes anything: it is a label: what it is worth is what the hold of that sum in a sandbox is worth. -/
noncomputable def Tryz.pinned : Pinned := { name := "ytldcohhifmpedaagreat", sum := "be9a07175a56a97372e167b91f4e55266f39a300ca0ace8f508e5b5f491e8725", checked := Tryz.checked }
namespace Rows
def none {H : Type} : Left H := { results := [], args := [] }

/-- 'laws.FnHomes': WHATEVER THE INPUT: true; the input reads as it did. -/
def fnHomesSpec : ChangeSpec := { name := "fnHomes", fn := fun _ => fun
  | [d] => { results := [.lit (.bool true)], args := [d] }
  | _ => none }
def fnHomesRow : OpenClaim := { program := "ytldcohhifmpedaagreat", sum := "be9a07175a56a97372e167b91f4e55266f39a300ca0ace8f508e5b5f491e8725", func := "loop.example/g00192/laws.FnHomes", spec := "fnHomes", inPlace := ["slices.overlaps[int]"], unfollowed := true, recurses := true, plainKeys := false, apart := false }
def FnHomesSaid : Prop := fnHomesRow.holds Tryz.pinned (OpenSpec.ofChange fnHomesSpec)

/-- ITS FALSE NEIGHBOUR: 'it returns false'. Refute it at one input. -/
def fnHomesWrong : ChangeSpec := { name := "fnHomes", fn := fun _ => fun
  | [d] => { results := [.lit (.bool false)], args := [d] }
  | _ => none }
def FnHomesWrongFalsely : Prop := fnHomesRow.holds Tryz.pinned (OpenSpec.ofChange fnHomesWrong)

/-- 'laws.FnGuess': WHATEVER THE INPUT: true; the input reads as it did. -/
def fnGuessSpec : ChangeSpec := { name := "fnGuess", fn := fun _ => fun
  | [d] => { results := [.lit (.bool true)], args := [d] }
  | _ => none }
def fnGuessRow : OpenClaim := { program := "ytldcohhifmpedaagreat", sum := "be9a07175a56a97372e167b91f4e55266f39a300ca0ace8f508e5b5f491e8725", func := "loop.example/g00192/laws.FnGuess", spec := "fnGuess", inPlace := ["slices.overlaps[int]"], unfollowed := true, recurses := true, plainKeys := false, apart := false }
def FnGuessSaid : Prop := fnGuessRow.holds Tryz.pinned (OpenSpec.ofChange fnGuessSpec)

/-- ITS FALSE NEIGHBOUR: 'it returns false'. Refute it at one input. -/
def fnGuessWrong : ChangeSpec := { name := "fnGuess", fn := fun _ => fun
  | [d] => { results := [.lit (.bool false)], args := [d] }
  | _ => none }
def FnGuessWrongFalsely : Prop := fnGuessRow.holds Tryz.pinned (OpenSpec.ofChange fnGuessWrong)

/-- 'laws.FnLive': WHATEVER THE INPUT: true; the input reads as it did. -/
def fnLiveSpec : ChangeSpec := { name := "fnLive", fn := fun _ => fun
  | [d] => { results := [.lit (.bool true)], args := [d] }
  | _ => none }
def fnLiveRow : OpenClaim := { program := "ytldcohhifmpedaagreat", sum := "be9a07175a56a97372e167b91f4e55266f39a300ca0ace8f508e5b5f491e8725", func := "loop.example/g00192/laws.FnLive", spec := "fnLive", inPlace := ["slices.overlaps[int]"], unfollowed := true, recurses := true, plainKeys := false, apart := false }
def FnLiveSaid : Prop := fnLiveRow.holds Tryz.pinned (OpenSpec.ofChange fnLiveSpec)

/-- ITS FALSE NEIGHBOUR: 'it returns false'. Refute it at one input. -/
def fnLiveWrong : ChangeSpec := { name := "fnLive", fn := fun _ => fun
  | [d] => { results := [.lit (.bool false)], args := [d] }
  | _ => none }
def FnLiveWrongFalsely : Prop := fnLiveRow.holds Tryz.pinned (OpenSpec.ofChange fnLiveWrong)

/-- 'laws.FnLiveAt': WHATEVER THE INPUT: true; the input reads as it did. -/
def fnLiveAtSpec : ChangeSpec := { name := "fnLiveAt", fn := fun _ => fun
  | [d] => { results := [.lit (.bool true)], args := [d] }
  | _ => none }
def fnLiveAtRow : OpenClaim := { program := "ytldcohhifmpedaagreat", sum := "be9a07175a56a97372e167b91f4e55266f39a300ca0ace8f508e5b5f491e8725", func := "loop.example/g00192/laws.FnLiveAt", spec := "fnLiveAt", inPlace := ["slices.overlaps[int]"], unfollowed := true, recurses := true, plainKeys := false, apart := false }
def FnLiveAtSaid : Prop := fnLiveAtRow.holds Tryz.pinned (OpenSpec.ofChange fnLiveAtSpec)

/-- ITS FALSE NEIGHBOUR: 'it returns false'. Refute it at one input. -/
def fnLiveAtWrong : ChangeSpec := { name := "fnLiveAt", fn := fun _ => fun
  | [d] => { results := [.lit (.bool false)], args := [d] }
  | _ => none }
def FnLiveAtWrongFalsely : Prop := fnLiveAtRow.holds Tryz.pinned (OpenSpec.ofChange fnLiveAtWrong)

/-- 'laws.FnBusy': WHATEVER THE INPUT: true; the input reads as it did. -/
def fnBusySpec : ChangeSpec := { name := "fnBusy", fn := fun _ => fun
  | [d] => { results := [.lit (.bool true)], args := [d] }
  | _ => none }
def fnBusyRow : OpenClaim := { program := "ytldcohhifmpedaagreat", sum := "be9a07175a56a97372e167b91f4e55266f39a300ca0ace8f508e5b5f491e8725", func := "loop.example/g00192/laws.FnBusy", spec := "fnBusy", inPlace := ["slices.overlaps[int]"], unfollowed := true, recurses := true, plainKeys := false, apart := false }
def FnBusySaid : Prop := fnBusyRow.holds Tryz.pinned (OpenSpec.ofChange fnBusySpec)

/-- ITS FALSE NEIGHBOUR: 'it returns false'. Refute it at one input. -/
def fnBusyWrong : ChangeSpec := { name := "fnBusy", fn := fun _ => fun
  | [d] => { results := [.lit (.bool false)], args := [d] }
  | _ => none }
def FnBusyWrongFalsely : Prop := fnBusyRow.holds Tryz.pinned (OpenSpec.ofChange fnBusyWrong)

/-- 'laws.FnClashes': WHATEVER THE INPUT: true; the input reads as it did. -/
def fnClashesSpec : ChangeSpec := { name := "fnClashes", fn := fun _ => fun
  | [d] => { results := [.lit (.bool true)], args := [d] }
  | _ => none }
def fnClashesRow : OpenClaim := { program := "ytldcohhifmpedaagreat", sum := "be9a07175a56a97372e167b91f4e55266f39a300ca0ace8f508e5b5f491e8725", func := "loop.example/g00192/laws.FnClashes", spec := "fnClashes", inPlace := ["slices.overlaps[int]"], unfollowed := true, recurses := true, plainKeys := false, apart := false }
def FnClashesSaid : Prop := fnClashesRow.holds Tryz.pinned (OpenSpec.ofChange fnClashesSpec)

/-- ITS FALSE NEIGHBOUR: 'it returns false'. Refute it at one input. -/
def fnClashesWrong : ChangeSpec := { name := "fnClashes", fn := fun _ => fun
  | [d] => { results := [.lit (.bool false)], args := [d] }
  | _ => none }
def FnClashesWrongFalsely : Prop := fnClashesRow.holds Tryz.pinned (OpenSpec.ofChange fnClashesWrong)

/-- 'laws.FnMade': WHATEVER THE INPUT: true; the input reads as it did. -/
def fnMadeSpec : ChangeSpec := { name := "fnMade", fn := fun _ => fun
  | [d] => { results := [.lit (.bool true)], args := [d] }
  | _ => none }
def fnMadeRow : OpenClaim := { program := "ytldcohhifmpedaagreat", sum := "be9a07175a56a97372e167b91f4e55266f39a300ca0ace8f508e5b5f491e8725", func := "loop.example/g00192/laws.FnMade", spec := "fnMade", inPlace := ["slices.overlaps[int]"], unfollowed := true, recurses := true, plainKeys := false, apart := false }
def FnMadeSaid : Prop := fnMadeRow.holds Tryz.pinned (OpenSpec.ofChange fnMadeSpec)

/-- ITS FALSE NEIGHBOUR: 'it returns false'. Refute it at one input. -/
def fnMadeWrong : ChangeSpec := { name := "fnMade", fn := fun _ => fun
  | [d] => { results := [.lit (.bool false)], args := [d] }
  | _ => none }
def FnMadeWrongFalsely : Prop := fnMadeRow.holds Tryz.pinned (OpenSpec.ofChange fnMadeWrong)

/-- 'laws.FnExactHomesOk': WHATEVER THE INPUT: true; the input reads as it did. -/
def fnExactHomesOkSpec : ChangeSpec := { name := "fnExactHomesOk", fn := fun _ => fun
  | [d1, d2] => { results := [.lit (.bool true)], args := [d1, d2] }
  | _ => none }
def fnExactHomesOkRow : OpenClaim := { program := "ytldcohhifmpedaagreat", sum := "be9a07175a56a97372e167b91f4e55266f39a300ca0ace8f508e5b5f491e8725", func := "loop.example/g00192/laws.FnExactHomesOk", spec := "fnExactHomesOk", inPlace := ["slices.overlaps[int]"], unfollowed := true, recurses := true, plainKeys := false, apart := false }
def FnExactHomesOkSaid : Prop := fnExactHomesOkRow.holds Tryz.pinned (OpenSpec.ofChange fnExactHomesOkSpec)

/-- ITS FALSE NEIGHBOUR: 'it returns false'. Refute it at one input. -/
def fnExactHomesOkWrong : ChangeSpec := { name := "fnExactHomesOk", fn := fun _ => fun
  | [d1, d2] => { results := [.lit (.bool false)], args := [d1, d2] }
  | _ => none }
def FnExactHomesOkWrongFalsely : Prop := fnExactHomesOkRow.holds Tryz.pinned (OpenSpec.ofChange fnExactHomesOkWrong)

/-- 'laws.FnExactGuess': WHATEVER THE INPUT: true; the input reads as it did. -/
def fnExactGuessSpec : ChangeSpec := { name := "fnExactGuess", fn := fun _ => fun
  | [d] => { results := [.lit (.bool true)], args := [d] }
  | _ => none }
def fnExactGuessRow : OpenClaim := { program := "ytldcohhifmpedaagreat", sum := "be9a07175a56a97372e167b91f4e55266f39a300ca0ace8f508e5b5f491e8725", func := "loop.example/g00192/laws.FnExactGuess", spec := "fnExactGuess", inPlace := ["slices.overlaps[int]"], unfollowed := true, recurses := true, plainKeys := false, apart := false }
def FnExactGuessSaid : Prop := fnExactGuessRow.holds Tryz.pinned (OpenSpec.ofChange fnExactGuessSpec)

/-- ITS FALSE NEIGHBOUR: 'it returns false'. Refute it at one input. -/
def fnExactGuessWrong : ChangeSpec := { name := "fnExactGuess", fn := fun _ => fun
  | [d] => { results := [.lit (.bool false)], args := [d] }
  | _ => none }
def FnExactGuessWrongFalsely : Prop := fnExactGuessRow.holds Tryz.pinned (OpenSpec.ofChange fnExactGuessWrong)

/-- 'laws.FnExactRenamed': WHATEVER THE INPUT: true; the input reads as it did. -/
def fnExactRenamedSpec : ChangeSpec := { name := "fnExactRenamed", fn := fun _ => fun
  | [d1, d2] => { results := [.lit (.bool true)], args := [d1, d2] }
  | _ => none }
def fnExactRenamedRow : OpenClaim := { program := "ytldcohhifmpedaagreat", sum := "be9a07175a56a97372e167b91f4e55266f39a300ca0ace8f508e5b5f491e8725", func := "loop.example/g00192/laws.FnExactRenamed", spec := "fnExactRenamed", inPlace := ["slices.overlaps[int]"], unfollowed := true, recurses := true, plainKeys := false, apart := false }
def FnExactRenamedSaid : Prop := fnExactRenamedRow.holds Tryz.pinned (OpenSpec.ofChange fnExactRenamedSpec)

/-- ITS FALSE NEIGHBOUR: 'it returns false'. Refute it at one input. -/
def fnExactRenamedWrong : ChangeSpec := { name := "fnExactRenamed", fn := fun _ => fun
  | [d1, d2] => { results := [.lit (.bool false)], args := [d1, d2] }
  | _ => none }
def FnExactRenamedWrongFalsely : Prop := fnExactRenamedRow.holds Tryz.pinned (OpenSpec.ofChange fnExactRenamedWrong)

/- THE SECOND FORM. 'bulk': how many values and letters a reading holds, each counted each time it is reached (what is shared counts as often as it is met; a slice's spare places count too). A statement '..UptoSaid' is the law's where the arguments, and the package variables that the reading takes, are together of bulk at most 1048576: NARROWER than '..Said'. Prove '..Said' where nothing that the law and all that it calls make is longer than what came in: it says more and counts as full. Else prove '..UptoSaid'. A law counts once. -/
mutual
def uptoBulk {H : Type} : DataW H → Nat
  | .lit (.string bytes) => bytes.length + 1
  | .lit _ => 1
  | .nil => 1
  | .ptr d => uptoBulk d + 1
  | .slice elems spare => uptoBulkAll elems + uptoBulkAll spare + 1
  | .agg parts => uptoBulkAll parts + 1
  | .iface _ d => uptoBulk d + 1
  | .map entries => uptoBulkEntries entries + 1
  | .held _ => 1
def uptoBulkAll {H : Type} : List (DataW H) → Nat
  | [] => 0
  | d :: r => uptoBulk d + uptoBulkAll r
def uptoBulkEntries {H : Type} : List (Lit × DataW H) → Nat
  | [] => 0
  | x :: r => uptoBulkEntry x + uptoBulkEntries r
def uptoBulkEntry {H : Type} : Lit × DataW H → Nat
  | (.string bytes, d) => bytes.length + uptoBulk d + 1
  | (_, d) => uptoBulk d + 1
 end
def uptoSmall : (H : Type) → List (DataW H) → Bool := fun _ ds => decide (uptoBulkAll ds ≤ 1048576)
def OpenSpec.upto (s : _root_.Go.ChangeSpec) : _root_.Go.OpenSpec := { _root_.Go.OpenSpec.ofChange s with cond := some uptoSmall }

/-- 'laws.FnHomes', WHERE WHAT IT READS IS OF BULK AT MOST 1048576: true; the input reads as it did. -/
def fnHomesUptoRow : OpenClaim := { program := "ytldcohhifmpedaagreat", sum := "be9a07175a56a97372e167b91f4e55266f39a300ca0ace8f508e5b5f491e8725", func := "loop.example/g00192/laws.FnHomes", spec := "fnHomes", inPlace := ["slices.overlaps[int]"], unfollowed := true, recurses := true, plainKeys := false, apart := false, narrowed := true }
def FnHomesUptoSaid : Prop := fnHomesUptoRow.holds Tryz.pinned (OpenSpec.upto fnHomesSpec)

/-- 'laws.FnGuess', WHERE WHAT IT READS IS OF BULK AT MOST 1048576: true; the input reads as it did. -/
def fnGuessUptoRow : OpenClaim := { program := "ytldcohhifmpedaagreat", sum := "be9a07175a56a97372e167b91f4e55266f39a300ca0ace8f508e5b5f491e8725", func := "loop.example/g00192/laws.FnGuess", spec := "fnGuess", inPlace := ["slices.overlaps[int]"], unfollowed := true, recurses := true, plainKeys := false, apart := false, narrowed := true }
def FnGuessUptoSaid : Prop := fnGuessUptoRow.holds Tryz.pinned (OpenSpec.upto fnGuessSpec)

/-- 'laws.FnLive', WHERE WHAT IT READS IS OF BULK AT MOST 1048576: true; the input reads as it did. -/
def fnLiveUptoRow : OpenClaim := { program := "ytldcohhifmpedaagreat", sum := "be9a07175a56a97372e167b91f4e55266f39a300ca0ace8f508e5b5f491e8725", func := "loop.example/g00192/laws.FnLive", spec := "fnLive", inPlace := ["slices.overlaps[int]"], unfollowed := true, recurses := true, plainKeys := false, apart := false, narrowed := true }
def FnLiveUptoSaid : Prop := fnLiveUptoRow.holds Tryz.pinned (OpenSpec.upto fnLiveSpec)

/-- 'laws.FnLiveAt', WHERE WHAT IT READS IS OF BULK AT MOST 1048576: true; the input reads as it did. -/
def fnLiveAtUptoRow : OpenClaim := { program := "ytldcohhifmpedaagreat", sum := "be9a07175a56a97372e167b91f4e55266f39a300ca0ace8f508e5b5f491e8725", func := "loop.example/g00192/laws.FnLiveAt", spec := "fnLiveAt", inPlace := ["slices.overlaps[int]"], unfollowed := true, recurses := true, plainKeys := false, apart := false, narrowed := true }
def FnLiveAtUptoSaid : Prop := fnLiveAtUptoRow.holds Tryz.pinned (OpenSpec.upto fnLiveAtSpec)

/-- 'laws.FnBusy', WHERE WHAT IT READS IS OF BULK AT MOST 1048576: true; the input reads as it did. -/
def fnBusyUptoRow : OpenClaim := { program := "ytldcohhifmpedaagreat", sum := "be9a07175a56a97372e167b91f4e55266f39a300ca0ace8f508e5b5f491e8725", func := "loop.example/g00192/laws.FnBusy", spec := "fnBusy", inPlace := ["slices.overlaps[int]"], unfollowed := true, recurses := true, plainKeys := false, apart := false, narrowed := true }
def FnBusyUptoSaid : Prop := fnBusyUptoRow.holds Tryz.pinned (OpenSpec.upto fnBusySpec)

/-- 'laws.FnClashes', WHERE WHAT IT READS IS OF BULK AT MOST 1048576: true; the input reads as it did. -/
def fnClashesUptoRow : OpenClaim := { program := "ytldcohhifmpedaagreat", sum := "be9a07175a56a97372e167b91f4e55266f39a300ca0ace8f508e5b5f491e8725", func := "loop.example/g00192/laws.FnClashes", spec := "fnClashes", inPlace := ["slices.overlaps[int]"], unfollowed := true, recurses := true, plainKeys := false, apart := false, narrowed := true }
def FnClashesUptoSaid : Prop := fnClashesUptoRow.holds Tryz.pinned (OpenSpec.upto fnClashesSpec)

/-- 'laws.FnMade', WHERE WHAT IT READS IS OF BULK AT MOST 1048576: true; the input reads as it did. -/
def fnMadeUptoRow : OpenClaim := { program := "ytldcohhifmpedaagreat", sum := "be9a07175a56a97372e167b91f4e55266f39a300ca0ace8f508e5b5f491e8725", func := "loop.example/g00192/laws.FnMade", spec := "fnMade", inPlace := ["slices.overlaps[int]"], unfollowed := true, recurses := true, plainKeys := false, apart := false, narrowed := true }
def FnMadeUptoSaid : Prop := fnMadeUptoRow.holds Tryz.pinned (OpenSpec.upto fnMadeSpec)

/-- 'laws.FnExactHomesOk', WHERE WHAT IT READS IS OF BULK AT MOST 1048576: true; the input reads as it did. -/
def fnExactHomesOkUptoRow : OpenClaim := { program := "ytldcohhifmpedaagreat", sum := "be9a07175a56a97372e167b91f4e55266f39a300ca0ace8f508e5b5f491e8725", func := "loop.example/g00192/laws.FnExactHomesOk", spec := "fnExactHomesOk", inPlace := ["slices.overlaps[int]"], unfollowed := true, recurses := true, plainKeys := false, apart := false, narrowed := true }
def FnExactHomesOkUptoSaid : Prop := fnExactHomesOkUptoRow.holds Tryz.pinned (OpenSpec.upto fnExactHomesOkSpec)

/-- 'laws.FnExactGuess', WHERE WHAT IT READS IS OF BULK AT MOST 1048576: true; the input reads as it did. -/
def fnExactGuessUptoRow : OpenClaim := { program := "ytldcohhifmpedaagreat", sum := "be9a07175a56a97372e167b91f4e55266f39a300ca0ace8f508e5b5f491e8725", func := "loop.example/g00192/laws.FnExactGuess", spec := "fnExactGuess", inPlace := ["slices.overlaps[int]"], unfollowed := true, recurses := true, plainKeys := false, apart := false, narrowed := true }
def FnExactGuessUptoSaid : Prop := fnExactGuessUptoRow.holds Tryz.pinned (OpenSpec.upto fnExactGuessSpec)

/-- 'laws.FnExactRenamed', WHERE WHAT IT READS IS OF BULK AT MOST 1048576: true; the input reads as it did. -/
def fnExactRenamedUptoRow : OpenClaim := { program := "ytldcohhifmpedaagreat", sum := "be9a07175a56a97372e167b91f4e55266f39a300ca0ace8f508e5b5f491e8725", func := "loop.example/g00192/laws.FnExactRenamed", spec := "fnExactRenamed", inPlace := ["slices.overlaps[int]"], unfollowed := true, recurses := true, plainKeys := false, apart := false, narrowed := true }
def FnExactRenamedUptoSaid : Prop := fnExactRenamedUptoRow.holds Tryz.pinned (OpenSpec.upto fnExactRenamedSpec)

end Rows
end Go.Proofs.YtldcohhifmpedaaGreat
