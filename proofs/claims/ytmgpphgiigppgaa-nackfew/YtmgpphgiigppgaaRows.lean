/-
  No cell of these rows narrows 'for every input' (looked for: loops, veiled, ifaces, maps, wideKeys, modest, calm, conditions, laid).
  DERIVED. THE GIVEN ROWS OF THIS SEAT. 5 by the template 'for every input the law returns true; each argument reads behind the call as it read before'; 0 by the template 'total and deterministic' (their statements: YtmgpphgiigppgaaTotals.lean).
  GIVEN WITH THE SEED: the statements are not yours to turn. If you find one false, say at which input.
  Laid BY PROGRAM, IN A SANDBOX (cutbox-rows.mjs): the forced cells as the released guide's own fill.sh prints them over the translation 6d7ca3bba71bca27… (all of the seat's roots in one cut). By AI agents, Wed Nov 11 2026. No macro, syntax, notation, axiom, sorry.
-/
import Derived.Test.YtmgpphgiigppgaaChecked
import GoSem.Claim
import GoSem.ClaimJoined
import GoSem.ClaimMapViews
import Derived.JoinedTies
import Derived.KernelRfl
namespace Go.Proofs.Ytmgpphgiigppgaa
/- THE CELL 'sum', in the pinned program and in every row, IS THE sha256 OF THE DUMP (.gsa) THAT YtmgpphgiigppgaaProg.lean LOADS. Nothing in Lean hashes anything: it is a label: what it is worth is what the hold of that sum in a sandbox is worth. -/
noncomputable def Try.pinned : Pinned := { name := "ytmgpphgiigppgaa", sum := "6d7ca3bba71bca27d17718a6993b452def0f85ebc2ed7a1bf6e7a014fbffad7f", checked := Try.checked }
namespace Rows
def none {H : Type} : Left H := { results := [], args := [] }

/-- 'sluicegatelaw8.NackAll': WHATEVER THE INPUT: true; the input reads as it did. -/
def nackAllSpec : ChangeSpec := { name := "nackAll", fn := fun _ => fun
  | [d1, d2, d3] => { results := [.lit (.bool true)], args := [d1, d2, d3] }
  | _ => none }
def nackAllRow : OpenClaim := { program := "ytmgpphgiigppgaa", sum := "6d7ca3bba71bca27d17718a6993b452def0f85ebc2ed7a1bf6e7a014fbffad7f", func := "sluicegate/sluicegatelaw8.NackAll", spec := "nackAll", apart := false }
def NackAllSaid : Prop := nackAllRow.holds Try.pinned (OpenSpec.ofChange nackAllSpec)

/-- ITS FALSE NEIGHBOUR: 'it returns false'. Refute it at one input. -/
def nackAllWrong : ChangeSpec := { name := "nackAll", fn := fun _ => fun
  | [d1, d2, d3] => { results := [.lit (.bool false)], args := [d1, d2, d3] }
  | _ => none }
def NackAllWrongFalsely : Prop := nackAllRow.holds Try.pinned (OpenSpec.ofChange nackAllWrong)

/-- 'sluicegatelaw8.NackTurn': WHATEVER THE INPUT: true; the input reads as it did. -/
def nackTurnSpec : ChangeSpec := { name := "nackTurn", fn := fun _ => fun
  | [d] => { results := [.lit (.bool true)], args := [d] }
  | _ => none }
def nackTurnRow : OpenClaim := { program := "ytmgpphgiigppgaa", sum := "6d7ca3bba71bca27d17718a6993b452def0f85ebc2ed7a1bf6e7a014fbffad7f", func := "sluicegate/sluicegatelaw8.NackTurn", spec := "nackTurn", apart := false }
def NackTurnSaid : Prop := nackTurnRow.holds Try.pinned (OpenSpec.ofChange nackTurnSpec)

/-- ITS FALSE NEIGHBOUR: 'it returns false'. Refute it at one input. -/
def nackTurnWrong : ChangeSpec := { name := "nackTurn", fn := fun _ => fun
  | [d] => { results := [.lit (.bool false)], args := [d] }
  | _ => none }
def NackTurnWrongFalsely : Prop := nackTurnRow.holds Try.pinned (OpenSpec.ofChange nackTurnWrong)

/-- 'sluicegatelaw8.NackFew': WHATEVER THE INPUT: true; the input reads as it did. -/
def nackFewSpec : ChangeSpec := { name := "nackFew", fn := fun _ => fun
  | [d] => { results := [.lit (.bool true)], args := [d] }
  | _ => none }
def nackFewRow : OpenClaim := { program := "ytmgpphgiigppgaa", sum := "6d7ca3bba71bca27d17718a6993b452def0f85ebc2ed7a1bf6e7a014fbffad7f", func := "sluicegate/sluicegatelaw8.NackFew", spec := "nackFew", apart := false }
def NackFewSaid : Prop := nackFewRow.holds Try.pinned (OpenSpec.ofChange nackFewSpec)

/-- ITS FALSE NEIGHBOUR: 'it returns false'. Refute it at one input. -/
def nackFewWrong : ChangeSpec := { name := "nackFew", fn := fun _ => fun
  | [d] => { results := [.lit (.bool false)], args := [d] }
  | _ => none }
def NackFewWrongFalsely : Prop := nackFewRow.holds Try.pinned (OpenSpec.ofChange nackFewWrong)

/-- 'sluicegatelaw8.NackShift': WHATEVER THE INPUT: true; the input reads as it did. -/
def nackShiftSpec : ChangeSpec := { name := "nackShift", fn := fun _ => fun
  | [d1, d2] => { results := [.lit (.bool true)], args := [d1, d2] }
  | _ => none }
def nackShiftRow : OpenClaim := { program := "ytmgpphgiigppgaa", sum := "6d7ca3bba71bca27d17718a6993b452def0f85ebc2ed7a1bf6e7a014fbffad7f", func := "sluicegate/sluicegatelaw8.NackShift", spec := "nackShift", apart := false }
def NackShiftSaid : Prop := nackShiftRow.holds Try.pinned (OpenSpec.ofChange nackShiftSpec)

/-- ITS FALSE NEIGHBOUR: 'it returns false'. Refute it at one input. -/
def nackShiftWrong : ChangeSpec := { name := "nackShift", fn := fun _ => fun
  | [d1, d2] => { results := [.lit (.bool false)], args := [d1, d2] }
  | _ => none }
def NackShiftWrongFalsely : Prop := nackShiftRow.holds Try.pinned (OpenSpec.ofChange nackShiftWrong)

/-- 'sluicegatelaw8.NackJoin': WHATEVER THE INPUT: true; the input reads as it did. -/
def nackJoinSpec : ChangeSpec := { name := "nackJoin", fn := fun _ => fun
  | [d1, d2] => { results := [.lit (.bool true)], args := [d1, d2] }
  | _ => none }
def nackJoinRow : OpenClaim := { program := "ytmgpphgiigppgaa", sum := "6d7ca3bba71bca27d17718a6993b452def0f85ebc2ed7a1bf6e7a014fbffad7f", func := "sluicegate/sluicegatelaw8.NackJoin", spec := "nackJoin", apart := false }
def NackJoinSaid : Prop := nackJoinRow.holds Try.pinned (OpenSpec.ofChange nackJoinSpec)

/-- ITS FALSE NEIGHBOUR: 'it returns false'. Refute it at one input. -/
def nackJoinWrong : ChangeSpec := { name := "nackJoin", fn := fun _ => fun
  | [d1, d2] => { results := [.lit (.bool false)], args := [d1, d2] }
  | _ => none }
def NackJoinWrongFalsely : Prop := nackJoinRow.holds Try.pinned (OpenSpec.ofChange nackJoinWrong)

/- THE SECOND FORM. 'bulk': how many values and letters a reading holds, each counted each time it is reached (what is shared counts as often as it is met; a slice's spare places count too). A statement '..UptoSaid' is the law's where the arguments, and the package variables that the reading takes, are together of bulk at most 1048576: NARROWER than '..Said'. Prove '..Said' where nothing that the law and all that it calls make is longer than what came in: it says more and counts as full. Else prove '..UptoSaid'. A law counts once. -/
mutual
def uptoBulk {H : Type} : DataW H → Nat
  | .lit (.string bytes) => bytes.length + 1
  | .lit _ => 1
  | .nil => 1
  | .ptr d => uptoBulk d + 1
  | .slice elems spare => uptoBulkAll elems + uptoBulkAll spare + 1
  | .agg parts => uptoBulkAll parts + 1
  | .iface _ d => uptoBulk d + 1
  | .map entries => uptoBulkEntries entries + 1
  | .held _ => 1
def uptoBulkAll {H : Type} : List (DataW H) → Nat
  | [] => 0
  | d :: r => uptoBulk d + uptoBulkAll r
def uptoBulkEntries {H : Type} : List (Lit × DataW H) → Nat
  | [] => 0
  | x :: r => uptoBulkEntry x + uptoBulkEntries r
def uptoBulkEntry {H : Type} : Lit × DataW H → Nat
  | (.string bytes, d) => bytes.length + uptoBulk d + 1
  | (_, d) => uptoBulk d + 1
 end
def uptoSmall : (H : Type) → List (DataW H) → Bool := fun _ ds => decide (uptoBulkAll ds ≤ 1048576)
def OpenSpec.upto (s : _root_.Go.ChangeSpec) : _root_.Go.OpenSpec := { _root_.Go.OpenSpec.ofChange s with cond := some uptoSmall }

/-- 'sluicegatelaw8.NackAll', WHERE WHAT IT READS IS OF BULK AT MOST 1048576: true; the input reads as it did. -/
def nackAllUptoRow : OpenClaim := { program := "ytmgpphgiigppgaa", sum := "6d7ca3bba71bca27d17718a6993b452def0f85ebc2ed7a1bf6e7a014fbffad7f", func := "sluicegate/sluicegatelaw8.NackAll", spec := "nackAll", apart := false, narrowed := true }
def NackAllUptoSaid : Prop := nackAllUptoRow.holds Try.pinned (OpenSpec.upto nackAllSpec)

/-- 'sluicegatelaw8.NackTurn', WHERE WHAT IT READS IS OF BULK AT MOST 1048576: true; the input reads as it did. -/
def nackTurnUptoRow : OpenClaim := { program := "ytmgpphgiigppgaa", sum := "6d7ca3bba71bca27d17718a6993b452def0f85ebc2ed7a1bf6e7a014fbffad7f", func := "sluicegate/sluicegatelaw8.NackTurn", spec := "nackTurn", apart := false, narrowed := true }
def NackTurnUptoSaid : Prop := nackTurnUptoRow.holds Try.pinned (OpenSpec.upto nackTurnSpec)

/-- 'sluicegatelaw8.NackFew', WHERE WHAT IT READS IS OF BULK AT MOST 1048576: true; the input reads as it did. -/
def nackFewUptoRow : OpenClaim := { program := "ytmgpphgiigppgaa", sum := "6d7ca3bba71bca27d17718a6993b452def0f85ebc2ed7a1bf6e7a014fbffad7f", func := "sluicegate/sluicegatelaw8.NackFew", spec := "nackFew", apart := false, narrowed := true }
def NackFewUptoSaid : Prop := nackFewUptoRow.holds Try.pinned (OpenSpec.upto nackFewSpec)

/-- 'sluicegatelaw8.NackShift', WHERE WHAT IT READS IS OF BULK AT MOST 1048576: true; the input reads as it did. -/
def nackShiftUptoRow : OpenClaim := { program := "ytmgpphgiigppgaa", sum := "6d7ca3bba71bca27d17718a6993b452def0f85ebc2ed7a1bf6e7a014fbffad7f", func := "sluicegate/sluicegatelaw8.NackShift", spec := "nackShift", apart := false, narrowed := true }
def NackShiftUptoSaid : Prop := nackShiftUptoRow.holds Try.pinned (OpenSpec.upto nackShiftSpec)

/-- 'sluicegatelaw8.NackJoin', WHERE WHAT IT READS IS OF BULK AT MOST 1048576: true; the input reads as it did. -/
def nackJoinUptoRow : OpenClaim := { program := "ytmgpphgiigppgaa", sum := "6d7ca3bba71bca27d17718a6993b452def0f85ebc2ed7a1bf6e7a014fbffad7f", func := "sluicegate/sluicegatelaw8.NackJoin", spec := "nackJoin", apart := false, narrowed := true }
def NackJoinUptoSaid : Prop := nackJoinUptoRow.holds Try.pinned (OpenSpec.upto nackJoinSpec)

end Rows
end Go.Proofs.Ytmgpphgiigppgaa
