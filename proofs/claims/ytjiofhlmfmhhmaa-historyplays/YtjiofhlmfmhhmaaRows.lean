/-
  No cell of these rows narrows 'for every input' (looked for: loops, veiled, ifaces, maps, wideKeys, modest, calm, conditions, laid).
  DERIVED. THE GIVEN ROWS OF THIS SEAT. 4 by the template 'for every input the law returns true; each argument reads behind the call as it read before'; 0 by the template 'total and deterministic' (their statements: YtjiofhlmfmhhmaaTotals.lean).
  GIVEN WITH THE SEED: the statements are not yours to turn. If you find one false, say at which input.
  Laid BY PROGRAM, IN A SANDBOX (cutbox-rows.mjs): the forced cells as the released guide's own fill.sh prints them over the translation b1dfb6288b929dff… (all of the seat's roots in one cut). By AI agents, Wed Nov 11 2026. No macro, syntax, notation, axiom, sorry.
-/
import Derived.Test.YtjiofhlmfmhhmaaChecked
import GoSem.Claim
import GoSem.ClaimJoined
import GoSem.ClaimMapViews
import Derived.JoinedTies
import Derived.KernelRfl
namespace Go.Proofs.Ytjiofhlmfmhhmaa
/- THE CELL 'sum', in the pinned program and in every row, IS THE sha256 OF THE DUMP (.gsa) THAT YtjiofhlmfmhhmaaProg.lean LOADS. Nothing in Lean hashes anything: it is a label: what it is worth is what the hold of that sum in a sandbox is worth. -/
noncomputable def Try.pinned : Pinned := { name := "ytjiofhlmfmhhmaa", sum := "b1dfb6288b929dff46a776b9dba7c5f42af8f389aaa5959f6135c75b9794d4db", checked := Try.checked }
namespace Rows
def none {H : Type} : Left H := { results := [], args := [] }

/-- 'sluicegatelaw18.HistoryPlays': WHATEVER THE INPUT: true; the input reads as it did. -/
def historyPlaysSpec : ChangeSpec := { name := "historyPlays", fn := fun _ => fun
  | [d1, d2] => { results := [.lit (.bool true)], args := [d1, d2] }
  | _ => none }
def historyPlaysRow : OpenClaim := { program := "ytjiofhlmfmhhmaa", sum := "b1dfb6288b929dff46a776b9dba7c5f42af8f389aaa5959f6135c75b9794d4db", func := "sluicegate/sluicegatelaw18.HistoryPlays", spec := "historyPlays", apart := false }
def HistoryPlaysSaid : Prop := historyPlaysRow.holds Try.pinned (OpenSpec.ofChange historyPlaysSpec)

/-- ITS FALSE NEIGHBOUR: 'it returns false'. Refute it at one input. -/
def historyPlaysWrong : ChangeSpec := { name := "historyPlays", fn := fun _ => fun
  | [d1, d2] => { results := [.lit (.bool false)], args := [d1, d2] }
  | _ => none }
def HistoryPlaysWrongFalsely : Prop := historyPlaysRow.holds Try.pinned (OpenSpec.ofChange historyPlaysWrong)

/-- 'sluicegatelaw18.HistoryGoes': WHATEVER THE INPUT: true; the input reads as it did. -/
def historyGoesSpec : ChangeSpec := { name := "historyGoes", fn := fun _ => fun
  | [d1, d2] => { results := [.lit (.bool true)], args := [d1, d2] }
  | _ => none }
def historyGoesRow : OpenClaim := { program := "ytjiofhlmfmhhmaa", sum := "b1dfb6288b929dff46a776b9dba7c5f42af8f389aaa5959f6135c75b9794d4db", func := "sluicegate/sluicegatelaw18.HistoryGoes", spec := "historyGoes", apart := false }
def HistoryGoesSaid : Prop := historyGoesRow.holds Try.pinned (OpenSpec.ofChange historyGoesSpec)

/-- ITS FALSE NEIGHBOUR: 'it returns false'. Refute it at one input. -/
def historyGoesWrong : ChangeSpec := { name := "historyGoes", fn := fun _ => fun
  | [d1, d2] => { results := [.lit (.bool false)], args := [d1, d2] }
  | _ => none }
def HistoryGoesWrongFalsely : Prop := historyGoesRow.holds Try.pinned (OpenSpec.ofChange historyGoesWrong)

/-- 'sluicegatelaw18.HistoryRow': WHATEVER THE INPUT: true; the input reads as it did. -/
def historyRowSpec : ChangeSpec := { name := "historyRow", fn := fun _ => fun
  | [d1, d2, d3, d4] => { results := [.lit (.bool true)], args := [d1, d2, d3, d4] }
  | _ => none }
def historyRowRow : OpenClaim := { program := "ytjiofhlmfmhhmaa", sum := "b1dfb6288b929dff46a776b9dba7c5f42af8f389aaa5959f6135c75b9794d4db", func := "sluicegate/sluicegatelaw18.HistoryRow", spec := "historyRow", apart := false }
def HistoryRowSaid : Prop := historyRowRow.holds Try.pinned (OpenSpec.ofChange historyRowSpec)

/-- ITS FALSE NEIGHBOUR: 'it returns false'. Refute it at one input. -/
def historyRowWrong : ChangeSpec := { name := "historyRow", fn := fun _ => fun
  | [d1, d2, d3, d4] => { results := [.lit (.bool false)], args := [d1, d2, d3, d4] }
  | _ => none }
def HistoryRowWrongFalsely : Prop := historyRowRow.holds Try.pinned (OpenSpec.ofChange historyRowWrong)

/-- 'sluicegatelaw18.HistoryNone': WHATEVER THE INPUT: true; the input reads as it did. -/
def historyNoneSpec : ChangeSpec := { name := "historyNone", fn := fun _ => fun
  | [d] => { results := [.lit (.bool true)], args := [d] }
  | _ => none }
def historyNoneRow : OpenClaim := { program := "ytjiofhlmfmhhmaa", sum := "b1dfb6288b929dff46a776b9dba7c5f42af8f389aaa5959f6135c75b9794d4db", func := "sluicegate/sluicegatelaw18.HistoryNone", spec := "historyNone", apart := false }
def HistoryNoneSaid : Prop := historyNoneRow.holds Try.pinned (OpenSpec.ofChange historyNoneSpec)

/-- ITS FALSE NEIGHBOUR: 'it returns false'. Refute it at one input. -/
def historyNoneWrong : ChangeSpec := { name := "historyNone", fn := fun _ => fun
  | [d] => { results := [.lit (.bool false)], args := [d] }
  | _ => none }
def HistoryNoneWrongFalsely : Prop := historyNoneRow.holds Try.pinned (OpenSpec.ofChange historyNoneWrong)

/- THE SECOND FORM. 'bulk': how many values and letters a reading holds, each counted each time it is reached (what is shared counts as often as it is met; a slice's spare places count too). A statement '..UptoSaid' is the law's where the arguments, and the package variables that the reading takes, are together of bulk at most 1048576: NARROWER than '..Said'. Prove '..Said' where nothing that the law and all that it calls make is longer than what came in: it says more and counts as full. Else prove '..UptoSaid'. A law counts once. -/
mutual
def uptoBulk {H : Type} : DataW H → Nat
  | .lit (.string bytes) => bytes.length + 1
  | .lit _ => 1
  | .nil => 1
  | .ptr d => uptoBulk d + 1
  | .slice elems spare => uptoBulkAll elems + uptoBulkAll spare + 1
  | .agg parts => uptoBulkAll parts + 1
  | .iface _ d => uptoBulk d + 1
  | .map entries => uptoBulkEntries entries + 1
  | .held _ => 1
def uptoBulkAll {H : Type} : List (DataW H) → Nat
  | [] => 0
  | d :: r => uptoBulk d + uptoBulkAll r
def uptoBulkEntries {H : Type} : List (Lit × DataW H) → Nat
  | [] => 0
  | x :: r => uptoBulkEntry x + uptoBulkEntries r
def uptoBulkEntry {H : Type} : Lit × DataW H → Nat
  | (.string bytes, d) => bytes.length + uptoBulk d + 1
  | (_, d) => uptoBulk d + 1
 end
def uptoSmall : (H : Type) → List (DataW H) → Bool := fun _ ds => decide (uptoBulkAll ds ≤ 1048576)
def OpenSpec.upto (s : _root_.Go.ChangeSpec) : _root_.Go.OpenSpec := { _root_.Go.OpenSpec.ofChange s with cond := some uptoSmall }

/-- 'sluicegatelaw18.HistoryPlays', WHERE WHAT IT READS IS OF BULK AT MOST 1048576: true; the input reads as it did. -/
def historyPlaysUptoRow : OpenClaim := { program := "ytjiofhlmfmhhmaa", sum := "b1dfb6288b929dff46a776b9dba7c5f42af8f389aaa5959f6135c75b9794d4db", func := "sluicegate/sluicegatelaw18.HistoryPlays", spec := "historyPlays", apart := false, narrowed := true }
def HistoryPlaysUptoSaid : Prop := historyPlaysUptoRow.holds Try.pinned (OpenSpec.upto historyPlaysSpec)

/-- 'sluicegatelaw18.HistoryGoes', WHERE WHAT IT READS IS OF BULK AT MOST 1048576: true; the input reads as it did. -/
def historyGoesUptoRow : OpenClaim := { program := "ytjiofhlmfmhhmaa", sum := "b1dfb6288b929dff46a776b9dba7c5f42af8f389aaa5959f6135c75b9794d4db", func := "sluicegate/sluicegatelaw18.HistoryGoes", spec := "historyGoes", apart := false, narrowed := true }
def HistoryGoesUptoSaid : Prop := historyGoesUptoRow.holds Try.pinned (OpenSpec.upto historyGoesSpec)

/-- 'sluicegatelaw18.HistoryRow', WHERE WHAT IT READS IS OF BULK AT MOST 1048576: true; the input reads as it did. -/
def historyRowUptoRow : OpenClaim := { program := "ytjiofhlmfmhhmaa", sum := "b1dfb6288b929dff46a776b9dba7c5f42af8f389aaa5959f6135c75b9794d4db", func := "sluicegate/sluicegatelaw18.HistoryRow", spec := "historyRow", apart := false, narrowed := true }
def HistoryRowUptoSaid : Prop := historyRowUptoRow.holds Try.pinned (OpenSpec.upto historyRowSpec)

/-- 'sluicegatelaw18.HistoryNone', WHERE WHAT IT READS IS OF BULK AT MOST 1048576: true; the input reads as it did. -/
def historyNoneUptoRow : OpenClaim := { program := "ytjiofhlmfmhhmaa", sum := "b1dfb6288b929dff46a776b9dba7c5f42af8f389aaa5959f6135c75b9794d4db", func := "sluicegate/sluicegatelaw18.HistoryNone", spec := "historyNone", apart := false, narrowed := true }
def HistoryNoneUptoSaid : Prop := historyNoneUptoRow.holds Try.pinned (OpenSpec.upto historyNoneSpec)

end Rows
end Go.Proofs.Ytjiofhlmfmhhmaa
