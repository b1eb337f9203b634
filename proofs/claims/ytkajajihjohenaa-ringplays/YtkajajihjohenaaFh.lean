/- A handle that came in, opened. -/
import Derived.Test.YtkajajihjohenaaFr
import Derived.Test.YtkajajihjohenaaEd
import Derived.Lib.SmallJoins
import Derived.ChangeSame
set_option maxRecDepth 100000
namespace Go.Proofs.Ytkajajihjohenaa.Arn
open Go.ChangeShapes Go.WideShapes Go.RowKit Go.Joins
set_option linter.unusedVariables false

theorem cellsHnd : Try.prog.cellsOf 30 = 2 := by kernel_rfl
theorem open_hnd {H : Type} {enc : TypeId × Value → H} {w : World} {base b0 : Nat} {spare : Nat → Bool} {held : Bool} {r : Reach} {v : Value} {d : DataW H} {p : List MemPlace}
    (hv : Value.okWide Try.prog w r b0 30 v) (h : DataW.Trod enc Try.prog w base spare held 30 v d p) :
    ∃ (s g : Int), v = hnV s g ∧ (Lit.int .i64 s).wf = true ∧ (Lit.int .u32 g).wf = true := by
  obtain ⟨v0, v1, y0, y1, n, rfl, _, _, h0, h1⟩ := open_agg2 Try.underlying30 (by kernel_rfl) cellsHnd hv h
  obtain ⟨s, e0, _, w0⟩ := DataW.trod_int Try.underlying3 h0
  obtain ⟨g, e1, _, w1⟩ := DataW.trod_int Try.underlying28 h1
  simp only [List.cons.injEq, and_true] at e0 e1
  subst e0 e1
  exact ⟨s, g, rfl, w0, w1⟩
end Go.Proofs.Ytkajajihjohenaa.Arn
