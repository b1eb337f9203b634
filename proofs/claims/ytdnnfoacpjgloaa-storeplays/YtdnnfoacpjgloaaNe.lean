/- The contract of patch.Of. -/
import Derived.Test.YtdnnfoacpjgloaaNa
set_option maxRecDepth 100000
namespace Go.Proofs.Ytdnnfoacpjgloaa.Pat
open Go.RowKit
set_option linter.unusedVariables false

def RetQ (w : World) (q t s f : Int) (ok : Bool) (e : Ending) (w' : World) : Prop := e = .returned (.tuple #[pch q t s f, .bool ok]) ∧ Below w.heap.size w w'
theorem DBlk.off4 {w : World} {p b : Nat} {l f : Int} {k s : Bool} (h : DBlk w p l k s f) (hp : p ≠ b) (u0 u1 u2 u3 : Value) :
    DBlk ((((w.setCell ⟨b, 0, none⟩ u0).setCell ⟨b, 1, none⟩ u1).setCell ⟨b, 2, none⟩ u2).setCell ⟨b, 3, none⟩ u3) p l k s f :=
  (Below.heap_setCell _ ⟨b, 3, none⟩ u3 p hp).trans ((Below.heap_setCell _ ⟨b, 2, none⟩ u2 p hp).trans ((Below.heap_setCell _ ⟨b, 1, none⟩ u1 p hp).trans ((Below.heap_setCell w ⟨b, 0, none⟩ u0 p hp).trans h)))
abbrev Q0 : Obj := .cells #[.int .u16 0, .int .u32 0, .int .u32 0, .int .u16 0] 35



def oQ (xs : List Int) : Int := if hasD xs then (pQ xs).seq else 0
def oT (xs : List Int) : Int := if hasD xs then (pQ xs).time else 0
def oS (xs : List Int) : Int := if hasD xs then (pQ xs).ssrc else 0
def oF (xs : List Int) : Int := if hasD xs then gF (pQ xs).pay else 0
end Go.Proofs.Ytdnnfoacpjgloaa.Pat
