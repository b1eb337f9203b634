/-
  No cell of these rows narrows 'for every input' (looked for: loops, veiled, ifaces, maps, wideKeys, modest, calm, conditions, laid).
  DERIVED. THE GIVEN ROWS OF THIS SEAT. 4 by the template 'for every input the law returns true; each argument reads behind the call as it read before'; 0 by the template 'total and deterministic' (their statements: YtbpfninaaenhpaaTotals.lean).
  GIVEN WITH THE SEED: the statements are not yours to turn. If you find one false, say at which input.
  Laid BY PROGRAM, IN A SANDBOX (cutbox-rows.mjs): the forced cells as the released guide's own fill.sh prints them over the translation e6b67dfd149a6cc3… (all of the seat's roots in one cut). By AI agents, Wed Nov 11 2026. No macro, syntax, notation, axiom, sorry.
-/
import Derived.Test.YtbpfninaaenhpaaChecked
import GoSem.Claim
import GoSem.ClaimJoined
import GoSem.ClaimMapViews
import Derived.JoinedTies
import Derived.KernelRfl
namespace Go.Proofs.Ytbpfninaaenhpaa
/- THE CELL 'sum', in the pinned program and in every row, IS THE sha256 OF THE DUMP (.gsa) THAT YtbpfninaaenhpaaProg.lean LOADS. Nothing in Lean hashes anything: it is a label: what it is worth is what the hold of that sum in a sandbox is worth. -/
noncomputable def Try.pinned : Pinned := { name := "ytbpfninaaenhpaa", sum := "e6b67dfd149a6cc3de20e68f10cd5e986563ec3c8e6977168bb4bb0c46190115", checked := Try.checked }
namespace Rows
def none {H : Type} : Left H := { results := [], args := [] }

/-- 'sluicegatelaw14.CourseAll': WHATEVER THE INPUT: true; the input reads as it did. -/
def courseAllSpec : ChangeSpec := { name := "courseAll", fn := fun _ => fun
  | [d1, d2] => { results := [.lit (.bool true)], args := [d1, d2] }
  | _ => none }
def courseAllRow : OpenClaim := { program := "ytbpfninaaenhpaa", sum := "e6b67dfd149a6cc3de20e68f10cd5e986563ec3c8e6977168bb4bb0c46190115", func := "sluicegate/sluicegatelaw14.CourseAll", spec := "courseAll", apart := false }
def CourseAllSaid : Prop := courseAllRow.holds Try.pinned (OpenSpec.ofChange courseAllSpec)

/-- ITS FALSE NEIGHBOUR: 'it returns false'. Refute it at one input. -/
def courseAllWrong : ChangeSpec := { name := "courseAll", fn := fun _ => fun
  | [d1, d2] => { results := [.lit (.bool false)], args := [d1, d2] }
  | _ => none }
def CourseAllWrongFalsely : Prop := courseAllRow.holds Try.pinned (OpenSpec.ofChange courseAllWrong)

/-- 'sluicegatelaw14.CourseGap': WHATEVER THE INPUT: true; the input reads as it did. -/
def courseGapSpec : ChangeSpec := { name := "courseGap", fn := fun _ => fun
  | [d1, d2, d3] => { results := [.lit (.bool true)], args := [d1, d2, d3] }
  | _ => none }
def courseGapRow : OpenClaim := { program := "ytbpfninaaenhpaa", sum := "e6b67dfd149a6cc3de20e68f10cd5e986563ec3c8e6977168bb4bb0c46190115", func := "sluicegate/sluicegatelaw14.CourseGap", spec := "courseGap", apart := false }
def CourseGapSaid : Prop := courseGapRow.holds Try.pinned (OpenSpec.ofChange courseGapSpec)

/-- ITS FALSE NEIGHBOUR: 'it returns false'. Refute it at one input. -/
def courseGapWrong : ChangeSpec := { name := "courseGap", fn := fun _ => fun
  | [d1, d2, d3] => { results := [.lit (.bool false)], args := [d1, d2, d3] }
  | _ => none }
def CourseGapWrongFalsely : Prop := courseGapRow.holds Try.pinned (OpenSpec.ofChange courseGapWrong)

/-- 'sluicegatelaw14.CourseRow': WHATEVER THE INPUT: true; the input reads as it did. -/
def courseRowSpec : ChangeSpec := { name := "courseRow", fn := fun _ => fun
  | [d1, d2, d3] => { results := [.lit (.bool true)], args := [d1, d2, d3] }
  | _ => none }
def courseRowRow : OpenClaim := { program := "ytbpfninaaenhpaa", sum := "e6b67dfd149a6cc3de20e68f10cd5e986563ec3c8e6977168bb4bb0c46190115", func := "sluicegate/sluicegatelaw14.CourseRow", spec := "courseRow", apart := false }
def CourseRowSaid : Prop := courseRowRow.holds Try.pinned (OpenSpec.ofChange courseRowSpec)

/-- ITS FALSE NEIGHBOUR: 'it returns false'. Refute it at one input. -/
def courseRowWrong : ChangeSpec := { name := "courseRow", fn := fun _ => fun
  | [d1, d2, d3] => { results := [.lit (.bool false)], args := [d1, d2, d3] }
  | _ => none }
def CourseRowWrongFalsely : Prop := courseRowRow.holds Try.pinned (OpenSpec.ofChange courseRowWrong)

/-- 'sluicegatelaw14.CourseShift': WHATEVER THE INPUT: true; the input reads as it did. -/
def courseShiftSpec : ChangeSpec := { name := "courseShift", fn := fun _ => fun
  | [d1, d2, d3] => { results := [.lit (.bool true)], args := [d1, d2, d3] }
  | _ => none }
def courseShiftRow : OpenClaim := { program := "ytbpfninaaenhpaa", sum := "e6b67dfd149a6cc3de20e68f10cd5e986563ec3c8e6977168bb4bb0c46190115", func := "sluicegate/sluicegatelaw14.CourseShift", spec := "courseShift", apart := false }
def CourseShiftSaid : Prop := courseShiftRow.holds Try.pinned (OpenSpec.ofChange courseShiftSpec)

/-- ITS FALSE NEIGHBOUR: 'it returns false'. Refute it at one input. -/
def courseShiftWrong : ChangeSpec := { name := "courseShift", fn := fun _ => fun
  | [d1, d2, d3] => { results := [.lit (.bool false)], args := [d1, d2, d3] }
  | _ => none }
def CourseShiftWrongFalsely : Prop := courseShiftRow.holds Try.pinned (OpenSpec.ofChange courseShiftWrong)

/- THE SECOND FORM. 'bulk': how many values and letters a reading holds, each counted each time it is reached (what is shared counts as often as it is met; a slice's spare places count too). A statement '..UptoSaid' is the law's where the arguments, and the package variables that the reading takes, are together of bulk at most 1048576: NARROWER than '..Said'. Prove '..Said' where nothing that the law and all that it calls make is longer than what came in: it says more and counts as full. Else prove '..UptoSaid'. A law counts once. -/
mutual
def uptoBulk {H : Type} : DataW H → Nat
  | .lit (.string bytes) => bytes.length + 1
  | .lit _ => 1
  | .nil => 1
  | .ptr d => uptoBulk d + 1
  | .slice elems spare => uptoBulkAll elems + uptoBulkAll spare + 1
  | .agg parts => uptoBulkAll parts + 1
  | .iface _ d => uptoBulk d + 1
  | .map entries => uptoBulkEntries entries + 1
  | .held _ => 1
def uptoBulkAll {H : Type} : List (DataW H) → Nat
  | [] => 0
  | d :: r => uptoBulk d + uptoBulkAll r
def uptoBulkEntries {H : Type} : List (Lit × DataW H) → Nat
  | [] => 0
  | x :: r => uptoBulkEntry x + uptoBulkEntries r
def uptoBulkEntry {H : Type} : Lit × DataW H → Nat
  | (.string bytes, d) => bytes.length + uptoBulk d + 1
  | (_, d) => uptoBulk d + 1
 end
def uptoSmall : (H : Type) → List (DataW H) → Bool := fun _ ds => decide (uptoBulkAll ds ≤ 1048576)
def OpenSpec.upto (s : _root_.Go.ChangeSpec) : _root_.Go.OpenSpec := { _root_.Go.OpenSpec.ofChange s with cond := some uptoSmall }

/-- 'sluicegatelaw14.CourseAll', WHERE WHAT IT READS IS OF BULK AT MOST 1048576: true; the input reads as it did. -/
def courseAllUptoRow : OpenClaim := { program := "ytbpfninaaenhpaa", sum := "e6b67dfd149a6cc3de20e68f10cd5e986563ec3c8e6977168bb4bb0c46190115", func := "sluicegate/sluicegatelaw14.CourseAll", spec := "courseAll", apart := false, narrowed := true }
def CourseAllUptoSaid : Prop := courseAllUptoRow.holds Try.pinned (OpenSpec.upto courseAllSpec)

/-- 'sluicegatelaw14.CourseGap', WHERE WHAT IT READS IS OF BULK AT MOST 1048576: true; the input reads as it did. -/
def courseGapUptoRow : OpenClaim := { program := "ytbpfninaaenhpaa", sum := "e6b67dfd149a6cc3de20e68f10cd5e986563ec3c8e6977168bb4bb0c46190115", func := "sluicegate/sluicegatelaw14.CourseGap", spec := "courseGap", apart := false, narrowed := true }
def CourseGapUptoSaid : Prop := courseGapUptoRow.holds Try.pinned (OpenSpec.upto courseGapSpec)

/-- 'sluicegatelaw14.CourseRow', WHERE WHAT IT READS IS OF BULK AT MOST 1048576: true; the input reads as it did. -/
def courseRowUptoRow : OpenClaim := { program := "ytbpfninaaenhpaa", sum := "e6b67dfd149a6cc3de20e68f10cd5e986563ec3c8e6977168bb4bb0c46190115", func := "sluicegate/sluicegatelaw14.CourseRow", spec := "courseRow", apart := false, narrowed := true }
def CourseRowUptoSaid : Prop := courseRowUptoRow.holds Try.pinned (OpenSpec.upto courseRowSpec)

/-- 'sluicegatelaw14.CourseShift', WHERE WHAT IT READS IS OF BULK AT MOST 1048576: true; the input reads as it did. -/
def courseShiftUptoRow : OpenClaim := { program := "ytbpfninaaenhpaa", sum := "e6b67dfd149a6cc3de20e68f10cd5e986563ec3c8e6977168bb4bb0c46190115", func := "sluicegate/sluicegatelaw14.CourseShift", spec := "courseShift", apart := false, narrowed := true }
def CourseShiftUptoSaid : Prop := courseShiftUptoRow.holds Try.pinned (OpenSpec.upto courseShiftSpec)

end Rows
end Go.Proofs.Ytbpfninaaenhpaa
