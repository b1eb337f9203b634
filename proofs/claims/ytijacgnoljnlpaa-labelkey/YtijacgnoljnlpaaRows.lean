/-
  No cell of these rows narrows 'for every input' (looked for: loops, veiled, ifaces, maps, wideKeys, modest, calm, conditions, laid).
  DERIVED. THE GIVEN ROWS OF THIS SEAT. 4 by the template 'for every input the law returns true; each argument reads behind the call as it read before'; 0 by the template 'total and deterministic' (their statements: YtijacgnoljnlpaaTotals.lean).
  GIVEN WITH THE SEED: the statements are not yours to turn. If you find one false, say at which input.
  Laid BY PROGRAM, IN A SANDBOX (cutbox-rows.mjs): the forced cells as the released guide's own fill.sh prints them over the translation 070f83eff4965767… (all of the seat's roots in one cut). By AI agents, Wed Nov 11 2026. No macro, syntax, notation, axiom, sorry.
-/
import Derived.Test.YtijacgnoljnlpaaChecked
import GoSem.Claim
import GoSem.ClaimJoined
import GoSem.ClaimMapViews
import Derived.JoinedTies
import Derived.KernelRfl
namespace Go.Proofs.Ytijacgnoljnlpaa
/- THE CELL 'sum', in the pinned program and in every row, IS THE sha256 OF THE DUMP (.gsa) THAT YtijacgnoljnlpaaProg.lean LOADS. Nothing in Lean hashes anything: it is a label: what it is worth is what the hold of that sum in a sandbox is worth. -/
noncomputable def Try.pinned : Pinned := { name := "ytijacgnoljnlpaa", sum := "070f83eff4965767384320bbc14fe3dbc847f63a6637ec3202a66a0a92641781", checked := Try.checked }
namespace Rows
def none {H : Type} : Left H := { results := [], args := [] }

/-- 'sluicegatelaw3.LabelOne': WHATEVER THE INPUT: true; the input reads as it did. -/
def labelOneSpec : ChangeSpec := { name := "labelOne", fn := fun _ => fun
  | [d] => { results := [.lit (.bool true)], args := [d] }
  | _ => none }
def labelOneRow : OpenClaim := { program := "ytijacgnoljnlpaa", sum := "070f83eff4965767384320bbc14fe3dbc847f63a6637ec3202a66a0a92641781", func := "sluicegate/sluicegatelaw3.LabelOne", spec := "labelOne", inPlace := ["internal/abi.NoEscape"], apart := false }
def LabelOneSaid : Prop := labelOneRow.holds Try.pinned (OpenSpec.ofChange labelOneSpec)

/-- ITS FALSE NEIGHBOUR: 'it returns false'. Refute it at one input. -/
def labelOneWrong : ChangeSpec := { name := "labelOne", fn := fun _ => fun
  | [d] => { results := [.lit (.bool false)], args := [d] }
  | _ => none }
def LabelOneWrongFalsely : Prop := labelOneRow.holds Try.pinned (OpenSpec.ofChange labelOneWrong)

/-- 'sluicegatelaw3.LabelJoin': WHATEVER THE INPUT: true; the input reads as it did. -/
def labelJoinSpec : ChangeSpec := { name := "labelJoin", fn := fun _ => fun
  | [d1, d2] => { results := [.lit (.bool true)], args := [d1, d2] }
  | _ => none }
def labelJoinRow : OpenClaim := { program := "ytijacgnoljnlpaa", sum := "070f83eff4965767384320bbc14fe3dbc847f63a6637ec3202a66a0a92641781", func := "sluicegate/sluicegatelaw3.LabelJoin", spec := "labelJoin", inPlace := ["internal/abi.NoEscape"], apart := false }
def LabelJoinSaid : Prop := labelJoinRow.holds Try.pinned (OpenSpec.ofChange labelJoinSpec)

/-- ITS FALSE NEIGHBOUR: 'it returns false'. Refute it at one input. -/
def labelJoinWrong : ChangeSpec := { name := "labelJoin", fn := fun _ => fun
  | [d1, d2] => { results := [.lit (.bool false)], args := [d1, d2] }
  | _ => none }
def LabelJoinWrongFalsely : Prop := labelJoinRow.holds Try.pinned (OpenSpec.ofChange labelJoinWrong)

/-- 'sluicegatelaw3.LabelCut': WHATEVER THE INPUT: true; the input reads as it did. -/
def labelCutSpec : ChangeSpec := { name := "labelCut", fn := fun _ => fun
  | [d1, d2, d3] => { results := [.lit (.bool true)], args := [d1, d2, d3] }
  | _ => none }
def labelCutRow : OpenClaim := { program := "ytijacgnoljnlpaa", sum := "070f83eff4965767384320bbc14fe3dbc847f63a6637ec3202a66a0a92641781", func := "sluicegate/sluicegatelaw3.LabelCut", spec := "labelCut", inPlace := ["internal/abi.NoEscape"], apart := false }
def LabelCutSaid : Prop := labelCutRow.holds Try.pinned (OpenSpec.ofChange labelCutSpec)

/-- ITS FALSE NEIGHBOUR: 'it returns false'. Refute it at one input. -/
def labelCutWrong : ChangeSpec := { name := "labelCut", fn := fun _ => fun
  | [d1, d2, d3] => { results := [.lit (.bool false)], args := [d1, d2, d3] }
  | _ => none }
def LabelCutWrongFalsely : Prop := labelCutRow.holds Try.pinned (OpenSpec.ofChange labelCutWrong)

/-- 'sluicegatelaw3.LabelKey': WHATEVER THE INPUT: true; the input reads as it did. -/
def labelKeySpec : ChangeSpec := { name := "labelKey", fn := fun _ => fun
  | [d1, d2] => { results := [.lit (.bool true)], args := [d1, d2] }
  | _ => none }
def labelKeyRow : OpenClaim := { program := "ytijacgnoljnlpaa", sum := "070f83eff4965767384320bbc14fe3dbc847f63a6637ec3202a66a0a92641781", func := "sluicegate/sluicegatelaw3.LabelKey", spec := "labelKey", inPlace := ["internal/abi.NoEscape"], apart := false }
def LabelKeySaid : Prop := labelKeyRow.holds Try.pinned (OpenSpec.ofChange labelKeySpec)

/-- ITS FALSE NEIGHBOUR: 'it returns false'. Refute it at one input. -/
def labelKeyWrong : ChangeSpec := { name := "labelKey", fn := fun _ => fun
  | [d1, d2] => { results := [.lit (.bool false)], args := [d1, d2] }
  | _ => none }
def LabelKeyWrongFalsely : Prop := labelKeyRow.holds Try.pinned (OpenSpec.ofChange labelKeyWrong)

/- THE SECOND FORM. 'bulk': how many values and letters a reading holds, each counted each time it is reached (what is shared counts as often as it is met; a slice's spare places count too). A statement '..UptoSaid' is the law's where the arguments, and the package variables that the reading takes, are together of bulk at most 1048576: NARROWER than '..Said'. Prove '..Said' where nothing that the law and all that it calls make is longer than what came in: it says more and counts as full. Else prove '..UptoSaid'. A law counts once. -/
mutual
def uptoBulk {H : Type} : DataW H → Nat
  | .lit (.string bytes) => bytes.length + 1
  | .lit _ => 1
  | .nil => 1
  | .ptr d => uptoBulk d + 1
  | .slice elems spare => uptoBulkAll elems + uptoBulkAll spare + 1
  | .agg parts => uptoBulkAll parts + 1
  | .iface _ d => uptoBulk d + 1
  | .map entries => uptoBulkEntries entries + 1
  | .held _ => 1
def uptoBulkAll {H : Type} : List (DataW H) → Nat
  | [] => 0
  | d :: r => uptoBulk d + uptoBulkAll r
def uptoBulkEntries {H : Type} : List (Lit × DataW H) → Nat
  | [] => 0
  | x :: r => uptoBulkEntry x + uptoBulkEntries r
def uptoBulkEntry {H : Type} : Lit × DataW H → Nat
  | (.string bytes, d) => bytes.length + uptoBulk d + 1
  | (_, d) => uptoBulk d + 1
 end
def uptoSmall : (H : Type) → List (DataW H) → Bool := fun _ ds => decide (uptoBulkAll ds ≤ 1048576)
def OpenSpec.upto (s : _root_.Go.ChangeSpec) : _root_.Go.OpenSpec := { _root_.Go.OpenSpec.ofChange s with cond := some uptoSmall }

/-- 'sluicegatelaw3.LabelOne', WHERE WHAT IT READS IS OF BULK AT MOST 1048576: true; the input reads as it did. -/
def labelOneUptoRow : OpenClaim := { program := "ytijacgnoljnlpaa", sum := "070f83eff4965767384320bbc14fe3dbc847f63a6637ec3202a66a0a92641781", func := "sluicegate/sluicegatelaw3.LabelOne", spec := "labelOne", inPlace := ["internal/abi.NoEscape"], apart := false, narrowed := true }
def LabelOneUptoSaid : Prop := labelOneUptoRow.holds Try.pinned (OpenSpec.upto labelOneSpec)

/-- 'sluicegatelaw3.LabelJoin', WHERE WHAT IT READS IS OF BULK AT MOST 1048576: true; the input reads as it did. -/
def labelJoinUptoRow : OpenClaim := { program := "ytijacgnoljnlpaa", sum := "070f83eff4965767384320bbc14fe3dbc847f63a6637ec3202a66a0a92641781", func := "sluicegate/sluicegatelaw3.LabelJoin", spec := "labelJoin", inPlace := ["internal/abi.NoEscape"], apart := false, narrowed := true }
def LabelJoinUptoSaid : Prop := labelJoinUptoRow.holds Try.pinned (OpenSpec.upto labelJoinSpec)

/-- 'sluicegatelaw3.LabelCut', WHERE WHAT IT READS IS OF BULK AT MOST 1048576: true; the input reads as it did. -/
def labelCutUptoRow : OpenClaim := { program := "ytijacgnoljnlpaa", sum := "070f83eff4965767384320bbc14fe3dbc847f63a6637ec3202a66a0a92641781", func := "sluicegate/sluicegatelaw3.LabelCut", spec := "labelCut", inPlace := ["internal/abi.NoEscape"], apart := false, narrowed := true }
def LabelCutUptoSaid : Prop := labelCutUptoRow.holds Try.pinned (OpenSpec.upto labelCutSpec)

/-- 'sluicegatelaw3.LabelKey', WHERE WHAT IT READS IS OF BULK AT MOST 1048576: true; the input reads as it did. -/
def labelKeyUptoRow : OpenClaim := { program := "ytijacgnoljnlpaa", sum := "070f83eff4965767384320bbc14fe3dbc847f63a6637ec3202a66a0a92641781", func := "sluicegate/sluicegatelaw3.LabelKey", spec := "labelKey", inPlace := ["internal/abi.NoEscape"], apart := false, narrowed := true }
def LabelKeyUptoSaid : Prop := labelKeyUptoRow.holds Try.pinned (OpenSpec.upto labelKeySpec)

end Rows
end Go.Proofs.Ytijacgnoljnlpaa
