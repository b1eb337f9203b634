/-
  DERIVED. GIVEN WITH THE SEED: THE CARDS: each row of YtijacgnoljnlpaaDoorRows.lean that lists a variable, with what it lists TIED to the program's text (the seventh form; the later family's looks); each row that meets fmt, with fmt's text TOLD by the authors' own Lean function (tested against real Go, not proved from fmt's source: count such statements apart). THE CARD IS WHAT COUNTS. Prove the row's statement (the work); the ties are given (YtijacgnoljnlpaaDoorTie.lean); close each card by the builder's one call (the guide's Derived/Test/ToyasCard.lean, 'card_holds'). Laid BY PROGRAM, IN A SANDBOX (cutbox-door.mjs). By AI agents, Wed Nov 11 2026. No macro, syntax, notation, axiom, sorry.
-/
import Derived.Test.YtijacgnoljnlpaaDoorRows
import GoSem.ClaimSeven
namespace Go.Proofs.YtijacgnoljnlpaaDoor
namespace Rows

/-- THE TIED CARD OF 'sluicegatelaw3.LabelAll'. -/
def labelAllCard : Claim7 := { stood := { row := labelAllRow, standIns := [], harness := (true, "a04a7f0bc64a58dfb58214b0f05b1aab2ad5eb5cc9acbb3cb30fdf6f496dcb9c"), looks := false }, kinds := [], alts := [], laidByText := true, laidKinds := [.data, .pinned], laidTests := true, laidLooks := .later }
def LabelAllCardSaid : Prop := Claim7.holds Tryd.pinned (.plain (OpenSpec.ofChange labelAllSpec)) labelAllCard

/-- THE SECOND FORM's CARD OF 'sluicegatelaw3.LabelAll'. -/
def labelAllUptoCard : Claim7 := { stood := { row := labelAllUptoRow, standIns := [], harness := (true, "a04a7f0bc64a58dfb58214b0f05b1aab2ad5eb5cc9acbb3cb30fdf6f496dcb9c"), looks := false }, kinds := [], alts := [], laidByText := true, laidKinds := [.data, .pinned], laidTests := true, laidLooks := .later }
def LabelAllUptoCardSaid : Prop := Claim7.holds Tryd.pinned (.plain (OpenSpec.upto labelAllSpec)) labelAllUptoCard
end Rows
end Go.Proofs.YtijacgnoljnlpaaDoor
