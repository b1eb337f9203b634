/-
  No cell of these rows narrows 'for every input' (looked for: loops, veiled, ifaces, maps, wideKeys, modest, calm, conditions, laid).
  DERIVED. THE GIVEN ROWS OF THIS SEAT. 7 by the template 'for every input the law returns true; each argument reads behind the call as it read before'; 0 by the template 'total and deterministic' (their statements: YtiamdaeodkiccaaTotals.lean).
  GIVEN WITH THE SEED: the statements are not yours to turn. If you find one false, say at which input.
  Laid BY PROGRAM, IN A SANDBOX (cutbox-rows.mjs): the forced cells as the released guide's own fill.sh prints them over the translation 039e76de794648c5… (all of the seat's roots in one cut). By AI agents, Wed Nov 11 2026. No macro, syntax, notation, axiom, sorry.
-/
import Derived.Test.YtiamdaeodkiccaaChecked
import GoSem.Claim
import GoSem.ClaimJoined
import GoSem.ClaimMapViews
import Derived.JoinedTies
import Derived.KernelRfl
namespace Go.Proofs.Ytiamdaeodkiccaa
/- THE CELL 'sum', in the pinned program and in every row, IS THE sha256 OF THE DUMP (.gsa) THAT YtiamdaeodkiccaaProg.lean LOADS. Nothing in Lean hashes anything: it is a label: what it is worth is what the hold of that sum in a sandbox is worth. -/
noncomputable def Try.pinned : Pinned := { name := "ytiamdaeodkiccaa", sum := "039e76de794648c50288a3853c8555cef423b0c8f5995a4e776dd0555846f6bc", checked := Try.checked }
namespace Rows
def none {H : Type} : Left H := { results := [], args := [] }

/-- 'sluicegatelaw5.RtpAll': WHATEVER THE INPUT: true; the input reads as it did. -/
def rtpAllSpec : ChangeSpec := { name := "rtpAll", fn := fun _ => fun
  | [d] => { results := [.lit (.bool true)], args := [d] }
  | _ => none }
def rtpAllRow : OpenClaim := { program := "ytiamdaeodkiccaa", sum := "039e76de794648c50288a3853c8555cef423b0c8f5995a4e776dd0555846f6bc", func := "sluicegate/sluicegatelaw5.RtpAll", spec := "rtpAll", apart := false }
def RtpAllSaid : Prop := rtpAllRow.holds Try.pinned (OpenSpec.ofChange rtpAllSpec)

/-- ITS FALSE NEIGHBOUR: 'it returns false'. Refute it at one input. -/
def rtpAllWrong : ChangeSpec := { name := "rtpAll", fn := fun _ => fun
  | [d] => { results := [.lit (.bool false)], args := [d] }
  | _ => none }
def RtpAllWrongFalsely : Prop := rtpAllRow.holds Try.pinned (OpenSpec.ofChange rtpAllWrong)

/-- 'sluicegatelaw5.RtpGets': WHATEVER THE INPUT: true; the input reads as it did. -/
def rtpGetsSpec : ChangeSpec := { name := "rtpGets", fn := fun _ => fun
  | [d] => { results := [.lit (.bool true)], args := [d] }
  | _ => none }
def rtpGetsRow : OpenClaim := { program := "ytiamdaeodkiccaa", sum := "039e76de794648c50288a3853c8555cef423b0c8f5995a4e776dd0555846f6bc", func := "sluicegate/sluicegatelaw5.RtpGets", spec := "rtpGets", apart := false }
def RtpGetsSaid : Prop := rtpGetsRow.holds Try.pinned (OpenSpec.ofChange rtpGetsSpec)

/-- ITS FALSE NEIGHBOUR: 'it returns false'. Refute it at one input. -/
def rtpGetsWrong : ChangeSpec := { name := "rtpGets", fn := fun _ => fun
  | [d] => { results := [.lit (.bool false)], args := [d] }
  | _ => none }
def RtpGetsWrongFalsely : Prop := rtpGetsRow.holds Try.pinned (OpenSpec.ofChange rtpGetsWrong)

/-- 'sluicegatelaw5.RtpTurn': WHATEVER THE INPUT: true; the input reads as it did. -/
def rtpTurnSpec : ChangeSpec := { name := "rtpTurn", fn := fun _ => fun
  | [d] => { results := [.lit (.bool true)], args := [d] }
  | _ => none }
def rtpTurnRow : OpenClaim := { program := "ytiamdaeodkiccaa", sum := "039e76de794648c50288a3853c8555cef423b0c8f5995a4e776dd0555846f6bc", func := "sluicegate/sluicegatelaw5.RtpTurn", spec := "rtpTurn", apart := false }
def RtpTurnSaid : Prop := rtpTurnRow.holds Try.pinned (OpenSpec.ofChange rtpTurnSpec)

/-- ITS FALSE NEIGHBOUR: 'it returns false'. Refute it at one input. -/
def rtpTurnWrong : ChangeSpec := { name := "rtpTurn", fn := fun _ => fun
  | [d] => { results := [.lit (.bool false)], args := [d] }
  | _ => none }
def RtpTurnWrongFalsely : Prop := rtpTurnRow.holds Try.pinned (OpenSpec.ofChange rtpTurnWrong)

/-- 'sluicegatelaw5.RtpBack': WHATEVER THE INPUT: true; the input reads as it did. -/
def rtpBackSpec : ChangeSpec := { name := "rtpBack", fn := fun _ => fun
  | [d] => { results := [.lit (.bool true)], args := [d] }
  | _ => none }
def rtpBackRow : OpenClaim := { program := "ytiamdaeodkiccaa", sum := "039e76de794648c50288a3853c8555cef423b0c8f5995a4e776dd0555846f6bc", func := "sluicegate/sluicegatelaw5.RtpBack", spec := "rtpBack", apart := false }
def RtpBackSaid : Prop := rtpBackRow.holds Try.pinned (OpenSpec.ofChange rtpBackSpec)

/-- ITS FALSE NEIGHBOUR: 'it returns false'. Refute it at one input. -/
def rtpBackWrong : ChangeSpec := { name := "rtpBack", fn := fun _ => fun
  | [d] => { results := [.lit (.bool false)], args := [d] }
  | _ => none }
def RtpBackWrongFalsely : Prop := rtpBackRow.holds Try.pinned (OpenSpec.ofChange rtpBackWrong)

/-- 'sluicegatelaw5.RtpOffset': WHATEVER THE INPUT: true; the input reads as it did. -/
def rtpOffsetSpec : ChangeSpec := { name := "rtpOffset", fn := fun _ => fun
  | [d] => { results := [.lit (.bool true)], args := [d] }
  | _ => none }
def rtpOffsetRow : OpenClaim := { program := "ytiamdaeodkiccaa", sum := "039e76de794648c50288a3853c8555cef423b0c8f5995a4e776dd0555846f6bc", func := "sluicegate/sluicegatelaw5.RtpOffset", spec := "rtpOffset", apart := false }
def RtpOffsetSaid : Prop := rtpOffsetRow.holds Try.pinned (OpenSpec.ofChange rtpOffsetSpec)

/-- ITS FALSE NEIGHBOUR: 'it returns false'. Refute it at one input. -/
def rtpOffsetWrong : ChangeSpec := { name := "rtpOffset", fn := fun _ => fun
  | [d] => { results := [.lit (.bool false)], args := [d] }
  | _ => none }
def RtpOffsetWrongFalsely : Prop := rtpOffsetRow.holds Try.pinned (OpenSpec.ofChange rtpOffsetWrong)

/-- 'sluicegatelaw5.RtpCut': WHATEVER THE INPUT: true; the input reads as it did. -/
def rtpCutSpec : ChangeSpec := { name := "rtpCut", fn := fun _ => fun
  | [d1, d2] => { results := [.lit (.bool true)], args := [d1, d2] }
  | _ => none }
def rtpCutRow : OpenClaim := { program := "ytiamdaeodkiccaa", sum := "039e76de794648c50288a3853c8555cef423b0c8f5995a4e776dd0555846f6bc", func := "sluicegate/sluicegatelaw5.RtpCut", spec := "rtpCut", apart := false }
def RtpCutSaid : Prop := rtpCutRow.holds Try.pinned (OpenSpec.ofChange rtpCutSpec)

/-- ITS FALSE NEIGHBOUR: 'it returns false'. Refute it at one input. -/
def rtpCutWrong : ChangeSpec := { name := "rtpCut", fn := fun _ => fun
  | [d1, d2] => { results := [.lit (.bool false)], args := [d1, d2] }
  | _ => none }
def RtpCutWrongFalsely : Prop := rtpCutRow.holds Try.pinned (OpenSpec.ofChange rtpCutWrong)

/-- 'sluicegatelaw5.RtpPad': WHATEVER THE INPUT: true; the input reads as it did. -/
def rtpPadSpec : ChangeSpec := { name := "rtpPad", fn := fun _ => fun
  | [d1, d2, d3] => { results := [.lit (.bool true)], args := [d1, d2, d3] }
  | _ => none }
def rtpPadRow : OpenClaim := { program := "ytiamdaeodkiccaa", sum := "039e76de794648c50288a3853c8555cef423b0c8f5995a4e776dd0555846f6bc", func := "sluicegate/sluicegatelaw5.RtpPad", spec := "rtpPad", apart := false }
def RtpPadSaid : Prop := rtpPadRow.holds Try.pinned (OpenSpec.ofChange rtpPadSpec)

/-- ITS FALSE NEIGHBOUR: 'it returns false'. Refute it at one input. -/
def rtpPadWrong : ChangeSpec := { name := "rtpPad", fn := fun _ => fun
  | [d1, d2, d3] => { results := [.lit (.bool false)], args := [d1, d2, d3] }
  | _ => none }
def RtpPadWrongFalsely : Prop := rtpPadRow.holds Try.pinned (OpenSpec.ofChange rtpPadWrong)

/- THE SECOND FORM. 'bulk': how many values and letters a reading holds, each counted each time it is reached (what is shared counts as often as it is met; a slice's spare places count too). A statement '..UptoSaid' is the law's where the arguments, and the package variables that the reading takes, are together of bulk at most 1048576: NARROWER than '..Said'. Prove '..Said' where nothing that the law and all that it calls make is longer than what came in: it says more and counts as full. Else prove '..UptoSaid'. A law counts once. -/
mutual
def uptoBulk {H : Type} : DataW H → Nat
  | .lit (.string bytes) => bytes.length + 1
  | .lit _ => 1
  | .nil => 1
  | .ptr d => uptoBulk d + 1
  | .slice elems spare => uptoBulkAll elems + uptoBulkAll spare + 1
  | .agg parts => uptoBulkAll parts + 1
  | .iface _ d => uptoBulk d + 1
  | .map entries => uptoBulkEntries entries + 1
  | .held _ => 1
def uptoBulkAll {H : Type} : List (DataW H) → Nat
  | [] => 0
  | d :: r => uptoBulk d + uptoBulkAll r
def uptoBulkEntries {H : Type} : List (Lit × DataW H) → Nat
  | [] => 0
  | x :: r => uptoBulkEntry x + uptoBulkEntries r
def uptoBulkEntry {H : Type} : Lit × DataW H → Nat
  | (.string bytes, d) => bytes.length + uptoBulk d + 1
  | (_, d) => uptoBulk d + 1
 end
def uptoSmall : (H : Type) → List (DataW H) → Bool := fun _ ds => decide (uptoBulkAll ds ≤ 1048576)
def OpenSpec.upto (s : _root_.Go.ChangeSpec) : _root_.Go.OpenSpec := { _root_.Go.OpenSpec.ofChange s with cond := some uptoSmall }

/-- 'sluicegatelaw5.RtpAll', WHERE WHAT IT READS IS OF BULK AT MOST 1048576: true; the input reads as it did. -/
def rtpAllUptoRow : OpenClaim := { program := "ytiamdaeodkiccaa", sum := "039e76de794648c50288a3853c8555cef423b0c8f5995a4e776dd0555846f6bc", func := "sluicegate/sluicegatelaw5.RtpAll", spec := "rtpAll", apart := false, narrowed := true }
def RtpAllUptoSaid : Prop := rtpAllUptoRow.holds Try.pinned (OpenSpec.upto rtpAllSpec)

/-- 'sluicegatelaw5.RtpGets', WHERE WHAT IT READS IS OF BULK AT MOST 1048576: true; the input reads as it did. -/
def rtpGetsUptoRow : OpenClaim := { program := "ytiamdaeodkiccaa", sum := "039e76de794648c50288a3853c8555cef423b0c8f5995a4e776dd0555846f6bc", func := "sluicegate/sluicegatelaw5.RtpGets", spec := "rtpGets", apart := false, narrowed := true }
def RtpGetsUptoSaid : Prop := rtpGetsUptoRow.holds Try.pinned (OpenSpec.upto rtpGetsSpec)

/-- 'sluicegatelaw5.RtpTurn', WHERE WHAT IT READS IS OF BULK AT MOST 1048576: true; the input reads as it did. -/
def rtpTurnUptoRow : OpenClaim := { program := "ytiamdaeodkiccaa", sum := "039e76de794648c50288a3853c8555cef423b0c8f5995a4e776dd0555846f6bc", func := "sluicegate/sluicegatelaw5.RtpTurn", spec := "rtpTurn", apart := false, narrowed := true }
def RtpTurnUptoSaid : Prop := rtpTurnUptoRow.holds Try.pinned (OpenSpec.upto rtpTurnSpec)

/-- 'sluicegatelaw5.RtpBack', WHERE WHAT IT READS IS OF BULK AT MOST 1048576: true; the input reads as it did. -/
def rtpBackUptoRow : OpenClaim := { program := "ytiamdaeodkiccaa", sum := "039e76de794648c50288a3853c8555cef423b0c8f5995a4e776dd0555846f6bc", func := "sluicegate/sluicegatelaw5.RtpBack", spec := "rtpBack", apart := false, narrowed := true }
def RtpBackUptoSaid : Prop := rtpBackUptoRow.holds Try.pinned (OpenSpec.upto rtpBackSpec)

/-- 'sluicegatelaw5.RtpOffset', WHERE WHAT IT READS IS OF BULK AT MOST 1048576: true; the input reads as it did. -/
def rtpOffsetUptoRow : OpenClaim := { program := "ytiamdaeodkiccaa", sum := "039e76de794648c50288a3853c8555cef423b0c8f5995a4e776dd0555846f6bc", func := "sluicegate/sluicegatelaw5.RtpOffset", spec := "rtpOffset", apart := false, narrowed := true }
def RtpOffsetUptoSaid : Prop := rtpOffsetUptoRow.holds Try.pinned (OpenSpec.upto rtpOffsetSpec)

/-- 'sluicegatelaw5.RtpCut', WHERE WHAT IT READS IS OF BULK AT MOST 1048576: true; the input reads as it did. -/
def rtpCutUptoRow : OpenClaim := { program := "ytiamdaeodkiccaa", sum := "039e76de794648c50288a3853c8555cef423b0c8f5995a4e776dd0555846f6bc", func := "sluicegate/sluicegatelaw5.RtpCut", spec := "rtpCut", apart := false, narrowed := true }
def RtpCutUptoSaid : Prop := rtpCutUptoRow.holds Try.pinned (OpenSpec.upto rtpCutSpec)

/-- 'sluicegatelaw5.RtpPad', WHERE WHAT IT READS IS OF BULK AT MOST 1048576: true; the input reads as it did. -/
def rtpPadUptoRow : OpenClaim := { program := "ytiamdaeodkiccaa", sum := "039e76de794648c50288a3853c8555cef423b0c8f5995a4e776dd0555846f6bc", func := "sluicegate/sluicegatelaw5.RtpPad", spec := "rtpPad", apart := false, narrowed := true }
def RtpPadUptoSaid : Prop := rtpPadUptoRow.holds Try.pinned (OpenSpec.upto rtpPadSpec)

end Rows
end Go.Proofs.Ytiamdaeodkiccaa
