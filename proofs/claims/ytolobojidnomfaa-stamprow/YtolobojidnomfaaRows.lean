/-
  No cell of these rows narrows 'for every input' (looked for: loops, veiled, ifaces, maps, wideKeys, modest, calm, conditions, laid).
  DERIVED. THE GIVEN ROWS OF THIS SEAT. 5 by the template 'for every input the law returns true; each argument reads behind the call as it read before'; 0 by the template 'total and deterministic' (their statements: YtolobojidnomfaaTotals.lean).
  GIVEN WITH THE SEED: the statements are not yours to turn. If you find one false, say at which input.
  Laid BY PROGRAM, IN A SANDBOX (cutbox-rows.mjs): the forced cells as the released guide's own fill.sh prints them over the translation 7aa60e1ee229a6d8… (all of the seat's roots in one cut). By AI agents, Wed Nov 11 2026. No macro, syntax, notation, axiom, sorry.
-/
import Derived.Test.YtolobojidnomfaaChecked
import GoSem.Claim
import GoSem.ClaimJoined
import GoSem.ClaimMapViews
import Derived.JoinedTies
import Derived.KernelRfl
namespace Go.Proofs.Ytolobojidnomfaa
/- THE CELL 'sum', in the pinned program and in every row, IS THE sha256 OF THE DUMP (.gsa) THAT YtolobojidnomfaaProg.lean LOADS. Nothing in Lean hashes anything: it is a label: what it is worth is what the hold of that sum in a sandbox is worth. -/
noncomputable def Try.pinned : Pinned := { name := "ytolobojidnomfaa", sum := "7aa60e1ee229a6d86902b6e4fb0da71706fd6330d2f30f981167fdf6fda44889", checked := Try.checked }
namespace Rows
def none {H : Type} : Left H := { results := [], args := [] }

/-- 'sluicegatelaw17.StampAll': WHATEVER THE INPUT: true; the input reads as it did. -/
def stampAllSpec : ChangeSpec := { name := "stampAll", fn := fun _ => fun
  | [d1, d2, d3] => { results := [.lit (.bool true)], args := [d1, d2, d3] }
  | _ => none }
def stampAllRow : OpenClaim := { program := "ytolobojidnomfaa", sum := "7aa60e1ee229a6d86902b6e4fb0da71706fd6330d2f30f981167fdf6fda44889", func := "sluicegate/sluicegatelaw17.StampAll", spec := "stampAll", apart := false }
def StampAllSaid : Prop := stampAllRow.holds Try.pinned (OpenSpec.ofChange stampAllSpec)

/-- ITS FALSE NEIGHBOUR: 'it returns false'. Refute it at one input. -/
def stampAllWrong : ChangeSpec := { name := "stampAll", fn := fun _ => fun
  | [d1, d2, d3] => { results := [.lit (.bool false)], args := [d1, d2, d3] }
  | _ => none }
def StampAllWrongFalsely : Prop := stampAllRow.holds Try.pinned (OpenSpec.ofChange stampAllWrong)

/-- 'sluicegatelaw17.StampReport': WHATEVER THE INPUT: true; the input reads as it did. -/
def stampReportSpec : ChangeSpec := { name := "stampReport", fn := fun _ => fun
  | [d1, d2, d3, d4, d5] => { results := [.lit (.bool true)], args := [d1, d2, d3, d4, d5] }
  | _ => none }
def stampReportRow : OpenClaim := { program := "ytolobojidnomfaa", sum := "7aa60e1ee229a6d86902b6e4fb0da71706fd6330d2f30f981167fdf6fda44889", func := "sluicegate/sluicegatelaw17.StampReport", spec := "stampReport", apart := false }
def StampReportSaid : Prop := stampReportRow.holds Try.pinned (OpenSpec.ofChange stampReportSpec)

/-- ITS FALSE NEIGHBOUR: 'it returns false'. Refute it at one input. -/
def stampReportWrong : ChangeSpec := { name := "stampReport", fn := fun _ => fun
  | [d1, d2, d3, d4, d5] => { results := [.lit (.bool false)], args := [d1, d2, d3, d4, d5] }
  | _ => none }
def StampReportWrongFalsely : Prop := stampReportRow.holds Try.pinned (OpenSpec.ofChange stampReportWrong)

/-- 'sluicegatelaw17.StampWhose': WHATEVER THE INPUT: true; the input reads as it did. -/
def stampWhoseSpec : ChangeSpec := { name := "stampWhose", fn := fun _ => fun
  | [d1, d2, d3] => { results := [.lit (.bool true)], args := [d1, d2, d3] }
  | _ => none }
def stampWhoseRow : OpenClaim := { program := "ytolobojidnomfaa", sum := "7aa60e1ee229a6d86902b6e4fb0da71706fd6330d2f30f981167fdf6fda44889", func := "sluicegate/sluicegatelaw17.StampWhose", spec := "stampWhose", apart := false }
def StampWhoseSaid : Prop := stampWhoseRow.holds Try.pinned (OpenSpec.ofChange stampWhoseSpec)

/-- ITS FALSE NEIGHBOUR: 'it returns false'. Refute it at one input. -/
def stampWhoseWrong : ChangeSpec := { name := "stampWhose", fn := fun _ => fun
  | [d1, d2, d3] => { results := [.lit (.bool false)], args := [d1, d2, d3] }
  | _ => none }
def StampWhoseWrongFalsely : Prop := stampWhoseRow.holds Try.pinned (OpenSpec.ofChange stampWhoseWrong)

/-- 'sluicegatelaw17.StampRow': WHATEVER THE INPUT: true; the input reads as it did. -/
def stampRowSpec : ChangeSpec := { name := "stampRow", fn := fun _ => fun
  | [d1, d2, d3, d4] => { results := [.lit (.bool true)], args := [d1, d2, d3, d4] }
  | _ => none }
def stampRowRow : OpenClaim := { program := "ytolobojidnomfaa", sum := "7aa60e1ee229a6d86902b6e4fb0da71706fd6330d2f30f981167fdf6fda44889", func := "sluicegate/sluicegatelaw17.StampRow", spec := "stampRow", apart := false }
def StampRowSaid : Prop := stampRowRow.holds Try.pinned (OpenSpec.ofChange stampRowSpec)

/-- ITS FALSE NEIGHBOUR: 'it returns false'. Refute it at one input. -/
def stampRowWrong : ChangeSpec := { name := "stampRow", fn := fun _ => fun
  | [d1, d2, d3, d4] => { results := [.lit (.bool false)], args := [d1, d2, d3, d4] }
  | _ => none }
def StampRowWrongFalsely : Prop := stampRowRow.holds Try.pinned (OpenSpec.ofChange stampRowWrong)

/-- 'sluicegatelaw17.StampLate': WHATEVER THE INPUT: true; the input reads as it did. -/
def stampLateSpec : ChangeSpec := { name := "stampLate", fn := fun _ => fun
  | [d1, d2, d3, d4] => { results := [.lit (.bool true)], args := [d1, d2, d3, d4] }
  | _ => none }
def stampLateRow : OpenClaim := { program := "ytolobojidnomfaa", sum := "7aa60e1ee229a6d86902b6e4fb0da71706fd6330d2f30f981167fdf6fda44889", func := "sluicegate/sluicegatelaw17.StampLate", spec := "stampLate", apart := false }
def StampLateSaid : Prop := stampLateRow.holds Try.pinned (OpenSpec.ofChange stampLateSpec)

/-- ITS FALSE NEIGHBOUR: 'it returns false'. Refute it at one input. -/
def stampLateWrong : ChangeSpec := { name := "stampLate", fn := fun _ => fun
  | [d1, d2, d3, d4] => { results := [.lit (.bool false)], args := [d1, d2, d3, d4] }
  | _ => none }
def StampLateWrongFalsely : Prop := stampLateRow.holds Try.pinned (OpenSpec.ofChange stampLateWrong)

/- THE SECOND FORM. 'bulk': how many values and letters a reading holds, each counted each time it is reached (what is shared counts as often as it is met; a slice's spare places count too). A statement '..UptoSaid' is the law's where the arguments, and the package variables that the reading takes, are together of bulk at most 1048576: NARROWER than '..Said'. Prove '..Said' where nothing that the law and all that it calls make is longer than what came in: it says more and counts as full. Else prove '..UptoSaid'. A law counts once. -/
mutual
def uptoBulk {H : Type} : DataW H → Nat
  | .lit (.string bytes) => bytes.length + 1
  | .lit _ => 1
  | .nil => 1
  | .ptr d => uptoBulk d + 1
  | .slice elems spare => uptoBulkAll elems + uptoBulkAll spare + 1
  | .agg parts => uptoBulkAll parts + 1
  | .iface _ d => uptoBulk d + 1
  | .map entries => uptoBulkEntries entries + 1
  | .held _ => 1
def uptoBulkAll {H : Type} : List (DataW H) → Nat
  | [] => 0
  | d :: r => uptoBulk d + uptoBulkAll r
def uptoBulkEntries {H : Type} : List (Lit × DataW H) → Nat
  | [] => 0
  | x :: r => uptoBulkEntry x + uptoBulkEntries r
def uptoBulkEntry {H : Type} : Lit × DataW H → Nat
  | (.string bytes, d) => bytes.length + uptoBulk d + 1
  | (_, d) => uptoBulk d + 1
 end
def uptoSmall : (H : Type) → List (DataW H) → Bool := fun _ ds => decide (uptoBulkAll ds ≤ 1048576)
def OpenSpec.upto (s : _root_.Go.ChangeSpec) : _root_.Go.OpenSpec := { _root_.Go.OpenSpec.ofChange s with cond := some uptoSmall }

/-- 'sluicegatelaw17.StampAll', WHERE WHAT IT READS IS OF BULK AT MOST 1048576: true; the input reads as it did. -/
def stampAllUptoRow : OpenClaim := { program := "ytolobojidnomfaa", sum := "7aa60e1ee229a6d86902b6e4fb0da71706fd6330d2f30f981167fdf6fda44889", func := "sluicegate/sluicegatelaw17.StampAll", spec := "stampAll", apart := false, narrowed := true }
def StampAllUptoSaid : Prop := stampAllUptoRow.holds Try.pinned (OpenSpec.upto stampAllSpec)

/-- 'sluicegatelaw17.StampReport', WHERE WHAT IT READS IS OF BULK AT MOST 1048576: true; the input reads as it did. -/
def stampReportUptoRow : OpenClaim := { program := "ytolobojidnomfaa", sum := "7aa60e1ee229a6d86902b6e4fb0da71706fd6330d2f30f981167fdf6fda44889", func := "sluicegate/sluicegatelaw17.StampReport", spec := "stampReport", apart := false, narrowed := true }
def StampReportUptoSaid : Prop := stampReportUptoRow.holds Try.pinned (OpenSpec.upto stampReportSpec)

/-- 'sluicegatelaw17.StampWhose', WHERE WHAT IT READS IS OF BULK AT MOST 1048576: true; the input reads as it did. -/
def stampWhoseUptoRow : OpenClaim := { program := "ytolobojidnomfaa", sum := "7aa60e1ee229a6d86902b6e4fb0da71706fd6330d2f30f981167fdf6fda44889", func := "sluicegate/sluicegatelaw17.StampWhose", spec := "stampWhose", apart := false, narrowed := true }
def StampWhoseUptoSaid : Prop := stampWhoseUptoRow.holds Try.pinned (OpenSpec.upto stampWhoseSpec)

/-- 'sluicegatelaw17.StampRow', WHERE WHAT IT READS IS OF BULK AT MOST 1048576: true; the input reads as it did. -/
def stampRowUptoRow : OpenClaim := { program := "ytolobojidnomfaa", sum := "7aa60e1ee229a6d86902b6e4fb0da71706fd6330d2f30f981167fdf6fda44889", func := "sluicegate/sluicegatelaw17.StampRow", spec := "stampRow", apart := false, narrowed := true }
def StampRowUptoSaid : Prop := stampRowUptoRow.holds Try.pinned (OpenSpec.upto stampRowSpec)

/-- 'sluicegatelaw17.StampLate', WHERE WHAT IT READS IS OF BULK AT MOST 1048576: true; the input reads as it did. -/
def stampLateUptoRow : OpenClaim := { program := "ytolobojidnomfaa", sum := "7aa60e1ee229a6d86902b6e4fb0da71706fd6330d2f30f981167fdf6fda44889", func := "sluicegate/sluicegatelaw17.StampLate", spec := "stampLate", apart := false, narrowed := true }
def StampLateUptoSaid : Prop := stampLateUptoRow.holds Try.pinned (OpenSpec.upto stampLateSpec)

end Rows
end Go.Proofs.Ytolobojidnomfaa
