/-
  No cell of these rows narrows 'for every input' (looked for: loops, veiled, ifaces, maps, wideKeys, modest, calm, conditions, laid).
  DERIVED. THE GIVEN ROWS OF THIS SEAT. 6 by the template 'for every input the law returns true; each argument reads behind the call as it read before'; 0 by the template 'total and deterministic' (their statements: YtjbgfaoancmknaaTotals.lean).
  GIVEN WITH THE SEED: the statements are not yours to turn. If you find one false, say at which input.
  Laid BY PROGRAM, IN A SANDBOX (cutbox-rows.mjs): the forced cells as the released guide's own fill.sh prints them over the translation e2cc302d0b471dad… (all of the seat's roots in one cut). By AI agents, Wed Nov 11 2026. No macro, syntax, notation, axiom, sorry.
-/
import Derived.Test.YtjbgfaoancmknaaChecked
import GoSem.Claim
import GoSem.ClaimJoined
import GoSem.ClaimMapViews
import Derived.JoinedTies
import Derived.KernelRfl
namespace Go.Proofs.Ytjbgfaoancmknaa
/- THE CELL 'sum', in the pinned program and in every row, IS THE sha256 OF THE DUMP (.gsa) THAT YtjbgfaoancmknaaProg.lean LOADS. Nothing in Lean hashes anything: it is a label: what it is worth is what the hold of that sum in a sandbox is worth. -/
noncomputable def Try.pinned : Pinned := { name := "ytjbgfaoancmknaa", sum := "e2cc302d0b471dad0b4e000d685bfca494c09b3e893bfbbd53de9b3eefc2b83c", checked := Try.checked }
namespace Rows
def none {H : Type} : Left H := { results := [], args := [] }

/-- 'sluicegatelaw9.RtcpAll': WHATEVER THE INPUT: true; the input reads as it did. -/
def rtcpAllSpec : ChangeSpec := { name := "rtcpAll", fn := fun _ => fun
  | [d] => { results := [.lit (.bool true)], args := [d] }
  | _ => none }
def rtcpAllRow : OpenClaim := { program := "ytjbgfaoancmknaa", sum := "e2cc302d0b471dad0b4e000d685bfca494c09b3e893bfbbd53de9b3eefc2b83c", func := "sluicegate/sluicegatelaw9.RtcpAll", spec := "rtcpAll", apart := false }
def RtcpAllSaid : Prop := rtcpAllRow.holds Try.pinned (OpenSpec.ofChange rtcpAllSpec)

/-- ITS FALSE NEIGHBOUR: 'it returns false'. Refute it at one input. -/
def rtcpAllWrong : ChangeSpec := { name := "rtcpAll", fn := fun _ => fun
  | [d] => { results := [.lit (.bool false)], args := [d] }
  | _ => none }
def RtcpAllWrongFalsely : Prop := rtcpAllRow.holds Try.pinned (OpenSpec.ofChange rtcpAllWrong)

/-- 'sluicegatelaw9.RtcpGets': WHATEVER THE INPUT: true; the input reads as it did. -/
def rtcpGetsSpec : ChangeSpec := { name := "rtcpGets", fn := fun _ => fun
  | [d] => { results := [.lit (.bool true)], args := [d] }
  | _ => none }
def rtcpGetsRow : OpenClaim := { program := "ytjbgfaoancmknaa", sum := "e2cc302d0b471dad0b4e000d685bfca494c09b3e893bfbbd53de9b3eefc2b83c", func := "sluicegate/sluicegatelaw9.RtcpGets", spec := "rtcpGets", apart := false }
def RtcpGetsSaid : Prop := rtcpGetsRow.holds Try.pinned (OpenSpec.ofChange rtcpGetsSpec)

/-- ITS FALSE NEIGHBOUR: 'it returns false'. Refute it at one input. -/
def rtcpGetsWrong : ChangeSpec := { name := "rtcpGets", fn := fun _ => fun
  | [d] => { results := [.lit (.bool false)], args := [d] }
  | _ => none }
def RtcpGetsWrongFalsely : Prop := rtcpGetsRow.holds Try.pinned (OpenSpec.ofChange rtcpGetsWrong)

/-- 'sluicegatelaw9.RtcpTurn': WHATEVER THE INPUT: true; the input reads as it did. -/
def rtcpTurnSpec : ChangeSpec := { name := "rtcpTurn", fn := fun _ => fun
  | [d] => { results := [.lit (.bool true)], args := [d] }
  | _ => none }
def rtcpTurnRow : OpenClaim := { program := "ytjbgfaoancmknaa", sum := "e2cc302d0b471dad0b4e000d685bfca494c09b3e893bfbbd53de9b3eefc2b83c", func := "sluicegate/sluicegatelaw9.RtcpTurn", spec := "rtcpTurn", apart := false }
def RtcpTurnSaid : Prop := rtcpTurnRow.holds Try.pinned (OpenSpec.ofChange rtcpTurnSpec)

/-- ITS FALSE NEIGHBOUR: 'it returns false'. Refute it at one input. -/
def rtcpTurnWrong : ChangeSpec := { name := "rtcpTurn", fn := fun _ => fun
  | [d] => { results := [.lit (.bool false)], args := [d] }
  | _ => none }
def RtcpTurnWrongFalsely : Prop := rtcpTurnRow.holds Try.pinned (OpenSpec.ofChange rtcpTurnWrong)

/-- 'sluicegatelaw9.RtcpBack': WHATEVER THE INPUT: true; the input reads as it did. -/
def rtcpBackSpec : ChangeSpec := { name := "rtcpBack", fn := fun _ => fun
  | [d] => { results := [.lit (.bool true)], args := [d] }
  | _ => none }
def rtcpBackRow : OpenClaim := { program := "ytjbgfaoancmknaa", sum := "e2cc302d0b471dad0b4e000d685bfca494c09b3e893bfbbd53de9b3eefc2b83c", func := "sluicegate/sluicegatelaw9.RtcpBack", spec := "rtcpBack", apart := false }
def RtcpBackSaid : Prop := rtcpBackRow.holds Try.pinned (OpenSpec.ofChange rtcpBackSpec)

/-- ITS FALSE NEIGHBOUR: 'it returns false'. Refute it at one input. -/
def rtcpBackWrong : ChangeSpec := { name := "rtcpBack", fn := fun _ => fun
  | [d] => { results := [.lit (.bool false)], args := [d] }
  | _ => none }
def RtcpBackWrongFalsely : Prop := rtcpBackRow.holds Try.pinned (OpenSpec.ofChange rtcpBackWrong)

/-- 'sluicegatelaw9.RtcpJoin': WHATEVER THE INPUT: true; the input reads as it did. -/
def rtcpJoinSpec : ChangeSpec := { name := "rtcpJoin", fn := fun _ => fun
  | [d1, d2] => { results := [.lit (.bool true)], args := [d1, d2] }
  | _ => none }
def rtcpJoinRow : OpenClaim := { program := "ytjbgfaoancmknaa", sum := "e2cc302d0b471dad0b4e000d685bfca494c09b3e893bfbbd53de9b3eefc2b83c", func := "sluicegate/sluicegatelaw9.RtcpJoin", spec := "rtcpJoin", apart := false }
def RtcpJoinSaid : Prop := rtcpJoinRow.holds Try.pinned (OpenSpec.ofChange rtcpJoinSpec)

/-- ITS FALSE NEIGHBOUR: 'it returns false'. Refute it at one input. -/
def rtcpJoinWrong : ChangeSpec := { name := "rtcpJoin", fn := fun _ => fun
  | [d1, d2] => { results := [.lit (.bool false)], args := [d1, d2] }
  | _ => none }
def RtcpJoinWrongFalsely : Prop := rtcpJoinRow.holds Try.pinned (OpenSpec.ofChange rtcpJoinWrong)

/-- 'sluicegatelaw9.RtcpCut': WHATEVER THE INPUT: true; the input reads as it did. -/
def rtcpCutSpec : ChangeSpec := { name := "rtcpCut", fn := fun _ => fun
  | [d1, d2] => { results := [.lit (.bool true)], args := [d1, d2] }
  | _ => none }
def rtcpCutRow : OpenClaim := { program := "ytjbgfaoancmknaa", sum := "e2cc302d0b471dad0b4e000d685bfca494c09b3e893bfbbd53de9b3eefc2b83c", func := "sluicegate/sluicegatelaw9.RtcpCut", spec := "rtcpCut", apart := false }
def RtcpCutSaid : Prop := rtcpCutRow.holds Try.pinned (OpenSpec.ofChange rtcpCutSpec)

/-- ITS FALSE NEIGHBOUR: 'it returns false'. Refute it at one input. -/
def rtcpCutWrong : ChangeSpec := { name := "rtcpCut", fn := fun _ => fun
  | [d1, d2] => { results := [.lit (.bool false)], args := [d1, d2] }
  | _ => none }
def RtcpCutWrongFalsely : Prop := rtcpCutRow.holds Try.pinned (OpenSpec.ofChange rtcpCutWrong)

/- THE SECOND FORM. 'bulk': how many values and letters a reading holds, each counted each time it is reached (what is shared counts as often as it is met; a slice's spare places count too). A statement '..UptoSaid' is the law's where the arguments, and the package variables that the reading takes, are together of bulk at most 1048576: NARROWER than '..Said'. Prove '..Said' where nothing that the law and all that it calls make is longer than what came in: it says more and counts as full. Else prove '..UptoSaid'. A law counts once. -/
mutual
def uptoBulk {H : Type} : DataW H → Nat
  | .lit (.string bytes) => bytes.length + 1
  | .lit _ => 1
  | .nil => 1
  | .ptr d => uptoBulk d + 1
  | .slice elems spare => uptoBulkAll elems + uptoBulkAll spare + 1
  | .agg parts => uptoBulkAll parts + 1
  | .iface _ d => uptoBulk d + 1
  | .map entries => uptoBulkEntries entries + 1
  | .held _ => 1
def uptoBulkAll {H : Type} : List (DataW H) → Nat
  | [] => 0
  | d :: r => uptoBulk d + uptoBulkAll r
def uptoBulkEntries {H : Type} : List (Lit × DataW H) → Nat
  | [] => 0
  | x :: r => uptoBulkEntry x + uptoBulkEntries r
def uptoBulkEntry {H : Type} : Lit × DataW H → Nat
  | (.string bytes, d) => bytes.length + uptoBulk d + 1
  | (_, d) => uptoBulk d + 1
 end
def uptoSmall : (H : Type) → List (DataW H) → Bool := fun _ ds => decide (uptoBulkAll ds ≤ 1048576)
def OpenSpec.upto (s : _root_.Go.ChangeSpec) : _root_.Go.OpenSpec := { _root_.Go.OpenSpec.ofChange s with cond := some uptoSmall }

/-- 'sluicegatelaw9.RtcpAll', WHERE WHAT IT READS IS OF BULK AT MOST 1048576: true; the input reads as it did. -/
def rtcpAllUptoRow : OpenClaim := { program := "ytjbgfaoancmknaa", sum := "e2cc302d0b471dad0b4e000d685bfca494c09b3e893bfbbd53de9b3eefc2b83c", func := "sluicegate/sluicegatelaw9.RtcpAll", spec := "rtcpAll", apart := false, narrowed := true }
def RtcpAllUptoSaid : Prop := rtcpAllUptoRow.holds Try.pinned (OpenSpec.upto rtcpAllSpec)

/-- 'sluicegatelaw9.RtcpGets', WHERE WHAT IT READS IS OF BULK AT MOST 1048576: true; the input reads as it did. -/
def rtcpGetsUptoRow : OpenClaim := { program := "ytjbgfaoancmknaa", sum := "e2cc302d0b471dad0b4e000d685bfca494c09b3e893bfbbd53de9b3eefc2b83c", func := "sluicegate/sluicegatelaw9.RtcpGets", spec := "rtcpGets", apart := false, narrowed := true }
def RtcpGetsUptoSaid : Prop := rtcpGetsUptoRow.holds Try.pinned (OpenSpec.upto rtcpGetsSpec)

/-- 'sluicegatelaw9.RtcpTurn', WHERE WHAT IT READS IS OF BULK AT MOST 1048576: true; the input reads as it did. -/
def rtcpTurnUptoRow : OpenClaim := { program := "ytjbgfaoancmknaa", sum := "e2cc302d0b471dad0b4e000d685bfca494c09b3e893bfbbd53de9b3eefc2b83c", func := "sluicegate/sluicegatelaw9.RtcpTurn", spec := "rtcpTurn", apart := false, narrowed := true }
def RtcpTurnUptoSaid : Prop := rtcpTurnUptoRow.holds Try.pinned (OpenSpec.upto rtcpTurnSpec)

/-- 'sluicegatelaw9.RtcpBack', WHERE WHAT IT READS IS OF BULK AT MOST 1048576: true; the input reads as it did. -/
def rtcpBackUptoRow : OpenClaim := { program := "ytjbgfaoancmknaa", sum := "e2cc302d0b471dad0b4e000d685bfca494c09b3e893bfbbd53de9b3eefc2b83c", func := "sluicegate/sluicegatelaw9.RtcpBack", spec := "rtcpBack", apart := false, narrowed := true }
def RtcpBackUptoSaid : Prop := rtcpBackUptoRow.holds Try.pinned (OpenSpec.upto rtcpBackSpec)

/-- 'sluicegatelaw9.RtcpJoin', WHERE WHAT IT READS IS OF BULK AT MOST 1048576: true; the input reads as it did. -/
def rtcpJoinUptoRow : OpenClaim := { program := "ytjbgfaoancmknaa", sum := "e2cc302d0b471dad0b4e000d685bfca494c09b3e893bfbbd53de9b3eefc2b83c", func := "sluicegate/sluicegatelaw9.RtcpJoin", spec := "rtcpJoin", apart := false, narrowed := true }
def RtcpJoinUptoSaid : Prop := rtcpJoinUptoRow.holds Try.pinned (OpenSpec.upto rtcpJoinSpec)

/-- 'sluicegatelaw9.RtcpCut', WHERE WHAT IT READS IS OF BULK AT MOST 1048576: true; the input reads as it did. -/
def rtcpCutUptoRow : OpenClaim := { program := "ytjbgfaoancmknaa", sum := "e2cc302d0b471dad0b4e000d685bfca494c09b3e893bfbbd53de9b3eefc2b83c", func := "sluicegate/sluicegatelaw9.RtcpCut", spec := "rtcpCut", apart := false, narrowed := true }
def RtcpCutUptoSaid : Prop := rtcpCutUptoRow.holds Try.pinned (OpenSpec.upto rtcpCutSpec)

end Rows
end Go.Proofs.Ytjbgfaoancmknaa
