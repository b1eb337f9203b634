/-
  No cell of these rows narrows 'for every input' (looked for: loops, veiled, ifaces, maps, wideKeys, modest, calm, conditions, laid).
  DERIVED. THE GIVEN ROWS OF THIS SEAT. 4 by the template 'for every input the law returns true; each argument reads behind the call as it read before'; 0 by the template 'total and deterministic' (their statements: YtamihjhhpedgcaaTotals.lean).
  GIVEN WITH THE SEED: the statements are not yours to turn. If you find one false, say at which input.
  Laid BY PROGRAM, IN A SANDBOX (cutbox-rows.mjs): the forced cells as the released guide's own fill.sh prints them over the translation dc3624a42d1372bc… (all of the seat's roots in one cut). By AI agents, Wed Nov 11 2026. No macro, syntax, notation, axiom, sorry.
-/
import Derived.Test.YtamihjhhpedgcaaChecked
import GoSem.Claim
import GoSem.ClaimJoined
import GoSem.ClaimMapViews
import Derived.JoinedTies
import Derived.KernelRfl
namespace Go.Proofs.Ytamihjhhpedgcaa
/- THE CELL 'sum', in the pinned program and in every row, IS THE sha256 OF THE DUMP (.gsa) THAT YtamihjhhpedgcaaProg.lean LOADS. Nothing in Lean hashes anything: it is a label: what it is worth is what the hold of that sum in a sandbox is worth. -/
noncomputable def Try.pinned : Pinned := { name := "ytamihjhhpedgcaa", sum := "dc3624a42d1372bc14547cfd75ca82ad263af11ab11a274058c795a06a9f6358", checked := Try.checked }
namespace Rows
def none {H : Type} : Left H := { results := [], args := [] }

/-- 'sluicegatelaw7.ReportAll': WHATEVER THE INPUT: true; the input reads as it did. -/
def reportAllSpec : ChangeSpec := { name := "reportAll", fn := fun _ => fun
  | [d] => { results := [.lit (.bool true)], args := [d] }
  | _ => none }
def reportAllRow : OpenClaim := { program := "ytamihjhhpedgcaa", sum := "dc3624a42d1372bc14547cfd75ca82ad263af11ab11a274058c795a06a9f6358", func := "sluicegate/sluicegatelaw7.ReportAll", spec := "reportAll", apart := false }
def ReportAllSaid : Prop := reportAllRow.holds Try.pinned (OpenSpec.ofChange reportAllSpec)

/-- ITS FALSE NEIGHBOUR: 'it returns false'. Refute it at one input. -/
def reportAllWrong : ChangeSpec := { name := "reportAll", fn := fun _ => fun
  | [d] => { results := [.lit (.bool false)], args := [d] }
  | _ => none }
def ReportAllWrongFalsely : Prop := reportAllRow.holds Try.pinned (OpenSpec.ofChange reportAllWrong)

/-- 'sluicegatelaw7.ReportGets': WHATEVER THE INPUT: true; the input reads as it did. -/
def reportGetsSpec : ChangeSpec := { name := "reportGets", fn := fun _ => fun
  | [d] => { results := [.lit (.bool true)], args := [d] }
  | _ => none }
def reportGetsRow : OpenClaim := { program := "ytamihjhhpedgcaa", sum := "dc3624a42d1372bc14547cfd75ca82ad263af11ab11a274058c795a06a9f6358", func := "sluicegate/sluicegatelaw7.ReportGets", spec := "reportGets", apart := false }
def ReportGetsSaid : Prop := reportGetsRow.holds Try.pinned (OpenSpec.ofChange reportGetsSpec)

/-- ITS FALSE NEIGHBOUR: 'it returns false'. Refute it at one input. -/
def reportGetsWrong : ChangeSpec := { name := "reportGets", fn := fun _ => fun
  | [d] => { results := [.lit (.bool false)], args := [d] }
  | _ => none }
def ReportGetsWrongFalsely : Prop := reportGetsRow.holds Try.pinned (OpenSpec.ofChange reportGetsWrong)

/-- 'sluicegatelaw7.ReportTurn': WHATEVER THE INPUT: true; the input reads as it did. -/
def reportTurnSpec : ChangeSpec := { name := "reportTurn", fn := fun _ => fun
  | [d1, d2, d3] => { results := [.lit (.bool true)], args := [d1, d2, d3] }
  | _ => none }
def reportTurnRow : OpenClaim := { program := "ytamihjhhpedgcaa", sum := "dc3624a42d1372bc14547cfd75ca82ad263af11ab11a274058c795a06a9f6358", func := "sluicegate/sluicegatelaw7.ReportTurn", spec := "reportTurn", apart := false }
def ReportTurnSaid : Prop := reportTurnRow.holds Try.pinned (OpenSpec.ofChange reportTurnSpec)

/-- ITS FALSE NEIGHBOUR: 'it returns false'. Refute it at one input. -/
def reportTurnWrong : ChangeSpec := { name := "reportTurn", fn := fun _ => fun
  | [d1, d2, d3] => { results := [.lit (.bool false)], args := [d1, d2, d3] }
  | _ => none }
def ReportTurnWrongFalsely : Prop := reportTurnRow.holds Try.pinned (OpenSpec.ofChange reportTurnWrong)

/-- 'sluicegatelaw7.ReportCut': WHATEVER THE INPUT: true; the input reads as it did. -/
def reportCutSpec : ChangeSpec := { name := "reportCut", fn := fun _ => fun
  | [d1, d2] => { results := [.lit (.bool true)], args := [d1, d2] }
  | _ => none }
def reportCutRow : OpenClaim := { program := "ytamihjhhpedgcaa", sum := "dc3624a42d1372bc14547cfd75ca82ad263af11ab11a274058c795a06a9f6358", func := "sluicegate/sluicegatelaw7.ReportCut", spec := "reportCut", apart := false }
def ReportCutSaid : Prop := reportCutRow.holds Try.pinned (OpenSpec.ofChange reportCutSpec)

/-- ITS FALSE NEIGHBOUR: 'it returns false'. Refute it at one input. -/
def reportCutWrong : ChangeSpec := { name := "reportCut", fn := fun _ => fun
  | [d1, d2] => { results := [.lit (.bool false)], args := [d1, d2] }
  | _ => none }
def ReportCutWrongFalsely : Prop := reportCutRow.holds Try.pinned (OpenSpec.ofChange reportCutWrong)

/- THE SECOND FORM. 'bulk': how many values and letters a reading holds, each counted each time it is reached (what is shared counts as often as it is met; a slice's spare places count too). A statement '..UptoSaid' is the law's where the arguments, and the package variables that the reading takes, are together of bulk at most 1048576: NARROWER than '..Said'. Prove '..Said' where nothing that the law and all that it calls make is longer than what came in: it says more and counts as full. Else prove '..UptoSaid'. A law counts once. -/
mutual
def uptoBulk {H : Type} : DataW H → Nat
  | .lit (.string bytes) => bytes.length + 1
  | .lit _ => 1
  | .nil => 1
  | .ptr d => uptoBulk d + 1
  | .slice elems spare => uptoBulkAll elems + uptoBulkAll spare + 1
  | .agg parts => uptoBulkAll parts + 1
  | .iface _ d => uptoBulk d + 1
  | .map entries => uptoBulkEntries entries + 1
  | .held _ => 1
def uptoBulkAll {H : Type} : List (DataW H) → Nat
  | [] => 0
  | d :: r => uptoBulk d + uptoBulkAll r
def uptoBulkEntries {H : Type} : List (Lit × DataW H) → Nat
  | [] => 0
  | x :: r => uptoBulkEntry x + uptoBulkEntries r
def uptoBulkEntry {H : Type} : Lit × DataW H → Nat
  | (.string bytes, d) => bytes.length + uptoBulk d + 1
  | (_, d) => uptoBulk d + 1
 end
def uptoSmall : (H : Type) → List (DataW H) → Bool := fun _ ds => decide (uptoBulkAll ds ≤ 1048576)
def OpenSpec.upto (s : _root_.Go.ChangeSpec) : _root_.Go.OpenSpec := { _root_.Go.OpenSpec.ofChange s with cond := some uptoSmall }

/-- 'sluicegatelaw7.ReportAll', WHERE WHAT IT READS IS OF BULK AT MOST 1048576: true; the input reads as it did. -/
def reportAllUptoRow : OpenClaim := { program := "ytamihjhhpedgcaa", sum := "dc3624a42d1372bc14547cfd75ca82ad263af11ab11a274058c795a06a9f6358", func := "sluicegate/sluicegatelaw7.ReportAll", spec := "reportAll", apart := false, narrowed := true }
def ReportAllUptoSaid : Prop := reportAllUptoRow.holds Try.pinned (OpenSpec.upto reportAllSpec)

/-- 'sluicegatelaw7.ReportGets', WHERE WHAT IT READS IS OF BULK AT MOST 1048576: true; the input reads as it did. -/
def reportGetsUptoRow : OpenClaim := { program := "ytamihjhhpedgcaa", sum := "dc3624a42d1372bc14547cfd75ca82ad263af11ab11a274058c795a06a9f6358", func := "sluicegate/sluicegatelaw7.ReportGets", spec := "reportGets", apart := false, narrowed := true }
def ReportGetsUptoSaid : Prop := reportGetsUptoRow.holds Try.pinned (OpenSpec.upto reportGetsSpec)

/-- 'sluicegatelaw7.ReportTurn', WHERE WHAT IT READS IS OF BULK AT MOST 1048576: true; the input reads as it did. -/
def reportTurnUptoRow : OpenClaim := { program := "ytamihjhhpedgcaa", sum := "dc3624a42d1372bc14547cfd75ca82ad263af11ab11a274058c795a06a9f6358", func := "sluicegate/sluicegatelaw7.ReportTurn", spec := "reportTurn", apart := false, narrowed := true }
def ReportTurnUptoSaid : Prop := reportTurnUptoRow.holds Try.pinned (OpenSpec.upto reportTurnSpec)

/-- 'sluicegatelaw7.ReportCut', WHERE WHAT IT READS IS OF BULK AT MOST 1048576: true; the input reads as it did. -/
def reportCutUptoRow : OpenClaim := { program := "ytamihjhhpedgcaa", sum := "dc3624a42d1372bc14547cfd75ca82ad263af11ab11a274058c795a06a9f6358", func := "sluicegate/sluicegatelaw7.ReportCut", spec := "reportCut", apart := false, narrowed := true }
def ReportCutUptoSaid : Prop := reportCutUptoRow.holds Try.pinned (OpenSpec.upto reportCutSpec)

end Rows
end Go.Proofs.Ytamihjhhpedgcaa
