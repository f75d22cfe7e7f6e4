/-
  No cell of these rows narrows 'for every input' (looked for: loops, veiled, ifaces, maps, wideKeys, modest, calm, conditions, laid).
  DERIVED. THE GIVEN ROWS OF THIS SEAT. 5 by the template 'for every input the law returns true; each argument reads behind the call as it read before'; 0 by the template 'total and deterministic' (their statements: YtlmkipmkanhcfaaTotals.lean).
  GIVEN WITH THE SEED: the statements are not yours to turn. If you find one false, say at which input.
  Laid BY PROGRAM, IN A SANDBOX (cutbox-rows.mjs): the forced cells as the released guide's own fill.sh prints them over the translation e38f6119fdf6ae6e… (all of the seat's roots in one cut). By AI agents, Wed Nov 11 2026. No macro, syntax, notation, axiom, sorry.
-/
import Derived.Test.YtlmkipmkanhcfaaChecked
import GoSem.Claim
import GoSem.ClaimJoined
import GoSem.ClaimMapViews
import Derived.JoinedTies
import Derived.KernelRfl
namespace Go.Proofs.Ytlmkipmkanhcfaa
/- THE CELL 'sum', in the pinned program and in every row, IS THE sha256 OF THE DUMP (.gsa) THAT YtlmkipmkanhcfaaProg.lean LOADS. Nothing in Lean hashes anything: it is a label: what it is worth is what the hold of that sum in a sandbox is worth. -/
noncomputable def Try.pinned : Pinned := { name := "ytlmkipmkanhcfaa", sum := "e38f6119fdf6ae6efb5a95fe4e5a218fe741acef3f6444b2fd1f18f037220693", checked := Try.checked }
namespace Rows
def none {H : Type} : Left H := { results := [], args := [] }

/-- 'laws.FnGraph': WHATEVER THE INPUT: true; the input reads as it did. -/
def fnGraphSpec : ChangeSpec := { name := "fnGraph", fn := fun _ => fun
  | [d] => { results := [.lit (.bool true)], args := [d] }
  | _ => none }
def fnGraphRow : OpenClaim := { program := "ytlmkipmkanhcfaa", sum := "e38f6119fdf6ae6efb5a95fe4e5a218fe741acef3f6444b2fd1f18f037220693", func := "loop.example/g00192/laws.FnGraph", spec := "fnGraph", unfollowed := true, recurses := true, apart := false }
def FnGraphSaid : Prop := fnGraphRow.holds Try.pinned (OpenSpec.ofChange fnGraphSpec)

/-- ITS FALSE NEIGHBOUR: 'it returns false'. Refute it at one input. -/
def fnGraphWrong : ChangeSpec := { name := "fnGraph", fn := fun _ => fun
  | [d] => { results := [.lit (.bool false)], args := [d] }
  | _ => none }
def FnGraphWrongFalsely : Prop := fnGraphRow.holds Try.pinned (OpenSpec.ofChange fnGraphWrong)

/-- 'laws.FnOrder': WHATEVER THE INPUT: true; the input reads as it did. -/
def fnOrderSpec : ChangeSpec := { name := "fnOrder", fn := fun _ => fun
  | [d] => { results := [.lit (.bool true)], args := [d] }
  | _ => none }
def fnOrderRow : OpenClaim := { program := "ytlmkipmkanhcfaa", sum := "e38f6119fdf6ae6efb5a95fe4e5a218fe741acef3f6444b2fd1f18f037220693", func := "loop.example/g00192/laws.FnOrder", spec := "fnOrder", unfollowed := true, recurses := true, apart := false }
def FnOrderSaid : Prop := fnOrderRow.holds Try.pinned (OpenSpec.ofChange fnOrderSpec)

/-- ITS FALSE NEIGHBOUR: 'it returns false'. Refute it at one input. -/
def fnOrderWrong : ChangeSpec := { name := "fnOrder", fn := fun _ => fun
  | [d] => { results := [.lit (.bool false)], args := [d] }
  | _ => none }
def FnOrderWrongFalsely : Prop := fnOrderRow.holds Try.pinned (OpenSpec.ofChange fnOrderWrong)

/-- 'laws.FnDoms': WHATEVER THE INPUT: true; the input reads as it did. -/
def fnDomsSpec : ChangeSpec := { name := "fnDoms", fn := fun _ => fun
  | [d] => { results := [.lit (.bool true)], args := [d] }
  | _ => none }
def fnDomsRow : OpenClaim := { program := "ytlmkipmkanhcfaa", sum := "e38f6119fdf6ae6efb5a95fe4e5a218fe741acef3f6444b2fd1f18f037220693", func := "loop.example/g00192/laws.FnDoms", spec := "fnDoms", unfollowed := true, recurses := true, apart := false }
def FnDomsSaid : Prop := fnDomsRow.holds Try.pinned (OpenSpec.ofChange fnDomsSpec)

/-- ITS FALSE NEIGHBOUR: 'it returns false'. Refute it at one input. -/
def fnDomsWrong : ChangeSpec := { name := "fnDoms", fn := fun _ => fun
  | [d] => { results := [.lit (.bool false)], args := [d] }
  | _ => none }
def FnDomsWrongFalsely : Prop := fnDomsRow.holds Try.pinned (OpenSpec.ofChange fnDomsWrong)

/-- 'laws.FnDefAt': WHATEVER THE INPUT: true; the input reads as it did. -/
def fnDefAtSpec : ChangeSpec := { name := "fnDefAt", fn := fun _ => fun
  | [d] => { results := [.lit (.bool true)], args := [d] }
  | _ => none }
def fnDefAtRow : OpenClaim := { program := "ytlmkipmkanhcfaa", sum := "e38f6119fdf6ae6efb5a95fe4e5a218fe741acef3f6444b2fd1f18f037220693", func := "loop.example/g00192/laws.FnDefAt", spec := "fnDefAt", unfollowed := true, recurses := true, apart := false }
def FnDefAtSaid : Prop := fnDefAtRow.holds Try.pinned (OpenSpec.ofChange fnDefAtSpec)

/-- ITS FALSE NEIGHBOUR: 'it returns false'. Refute it at one input. -/
def fnDefAtWrong : ChangeSpec := { name := "fnDefAt", fn := fun _ => fun
  | [d] => { results := [.lit (.bool false)], args := [d] }
  | _ => none }
def FnDefAtWrongFalsely : Prop := fnDefAtRow.holds Try.pinned (OpenSpec.ofChange fnDefAtWrong)

/-- 'laws.FnExactDefAt': WHATEVER THE INPUT: true; the input reads as it did. -/
def fnExactDefAtSpec : ChangeSpec := { name := "fnExactDefAt", fn := fun _ => fun
  | [d1, d2] => { results := [.lit (.bool true)], args := [d1, d2] }
  | _ => none }
def fnExactDefAtRow : OpenClaim := { program := "ytlmkipmkanhcfaa", sum := "e38f6119fdf6ae6efb5a95fe4e5a218fe741acef3f6444b2fd1f18f037220693", func := "loop.example/g00192/laws.FnExactDefAt", spec := "fnExactDefAt", unfollowed := true, recurses := true, apart := false }
def FnExactDefAtSaid : Prop := fnExactDefAtRow.holds Try.pinned (OpenSpec.ofChange fnExactDefAtSpec)

/-- ITS FALSE NEIGHBOUR: 'it returns false'. Refute it at one input. -/
def fnExactDefAtWrong : ChangeSpec := { name := "fnExactDefAt", fn := fun _ => fun
  | [d1, d2] => { results := [.lit (.bool false)], args := [d1, d2] }
  | _ => none }
def FnExactDefAtWrongFalsely : Prop := fnExactDefAtRow.holds Try.pinned (OpenSpec.ofChange fnExactDefAtWrong)

/- THE SECOND FORM. 'bulk': how many values and letters a reading holds, each counted each time it is reached (what is shared counts as often as it is met; a slice's spare places count too). A statement '..UptoSaid' is the law's where the arguments, and the package variables that the reading takes, are together of bulk at most 1048576: NARROWER than '..Said'. Prove '..Said' where nothing that the law and all that it calls make is longer than what came in: it says more and counts as full. Else prove '..UptoSaid'. A law counts once. -/
mutual
def uptoBulk {H : Type} : DataW H → Nat
  | .lit (.string bytes) => bytes.length + 1
  | .lit _ => 1
  | .nil => 1
  | .ptr d => uptoBulk d + 1
  | .slice elems spare => uptoBulkAll elems + uptoBulkAll spare + 1
  | .agg parts => uptoBulkAll parts + 1
  | .iface _ d => uptoBulk d + 1
  | .map entries => uptoBulkEntries entries + 1
  | .held _ => 1
def uptoBulkAll {H : Type} : List (DataW H) → Nat
  | [] => 0
  | d :: r => uptoBulk d + uptoBulkAll r
def uptoBulkEntries {H : Type} : List (Lit × DataW H) → Nat
  | [] => 0
  | x :: r => uptoBulkEntry x + uptoBulkEntries r
def uptoBulkEntry {H : Type} : Lit × DataW H → Nat
  | (.string bytes, d) => bytes.length + uptoBulk d + 1
  | (_, d) => uptoBulk d + 1
 end
def uptoSmall : (H : Type) → List (DataW H) → Bool := fun _ ds => decide (uptoBulkAll ds ≤ 1048576)
def OpenSpec.upto (s : _root_.Go.ChangeSpec) : _root_.Go.OpenSpec := { _root_.Go.OpenSpec.ofChange s with cond := some uptoSmall }

/-- 'laws.FnGraph', WHERE WHAT IT READS IS OF BULK AT MOST 1048576: true; the input reads as it did. -/
def fnGraphUptoRow : OpenClaim := { program := "ytlmkipmkanhcfaa", sum := "e38f6119fdf6ae6efb5a95fe4e5a218fe741acef3f6444b2fd1f18f037220693", func := "loop.example/g00192/laws.FnGraph", spec := "fnGraph", unfollowed := true, recurses := true, apart := false, narrowed := true }
def FnGraphUptoSaid : Prop := fnGraphUptoRow.holds Try.pinned (OpenSpec.upto fnGraphSpec)

/-- 'laws.FnOrder', WHERE WHAT IT READS IS OF BULK AT MOST 1048576: true; the input reads as it did. -/
def fnOrderUptoRow : OpenClaim := { program := "ytlmkipmkanhcfaa", sum := "e38f6119fdf6ae6efb5a95fe4e5a218fe741acef3f6444b2fd1f18f037220693", func := "loop.example/g00192/laws.FnOrder", spec := "fnOrder", unfollowed := true, recurses := true, apart := false, narrowed := true }
def FnOrderUptoSaid : Prop := fnOrderUptoRow.holds Try.pinned (OpenSpec.upto fnOrderSpec)

/-- 'laws.FnDoms', WHERE WHAT IT READS IS OF BULK AT MOST 1048576: true; the input reads as it did. -/
def fnDomsUptoRow : OpenClaim := { program := "ytlmkipmkanhcfaa", sum := "e38f6119fdf6ae6efb5a95fe4e5a218fe741acef3f6444b2fd1f18f037220693", func := "loop.example/g00192/laws.FnDoms", spec := "fnDoms", unfollowed := true, recurses := true, apart := false, narrowed := true }
def FnDomsUptoSaid : Prop := fnDomsUptoRow.holds Try.pinned (OpenSpec.upto fnDomsSpec)

/-- 'laws.FnDefAt', WHERE WHAT IT READS IS OF BULK AT MOST 1048576: true; the input reads as it did. -/
def fnDefAtUptoRow : OpenClaim := { program := "ytlmkipmkanhcfaa", sum := "e38f6119fdf6ae6efb5a95fe4e5a218fe741acef3f6444b2fd1f18f037220693", func := "loop.example/g00192/laws.FnDefAt", spec := "fnDefAt", unfollowed := true, recurses := true, apart := false, narrowed := true }
def FnDefAtUptoSaid : Prop := fnDefAtUptoRow.holds Try.pinned (OpenSpec.upto fnDefAtSpec)

/-- 'laws.FnExactDefAt', WHERE WHAT IT READS IS OF BULK AT MOST 1048576: true; the input reads as it did. -/
def fnExactDefAtUptoRow : OpenClaim := { program := "ytlmkipmkanhcfaa", sum := "e38f6119fdf6ae6efb5a95fe4e5a218fe741acef3f6444b2fd1f18f037220693", func := "loop.example/g00192/laws.FnExactDefAt", spec := "fnExactDefAt", unfollowed := true, recurses := true, apart := false, narrowed := true }
def FnExactDefAtUptoSaid : Prop := fnExactDefAtUptoRow.holds Try.pinned (OpenSpec.upto fnExactDefAtSpec)

end Rows
end Go.Proofs.Ytlmkipmkanhcfaa
