/- A descriptor that came in, opened. -/
import Derived.Test.YthmmafpmpnhleaaFr
import Derived.Test.YthmmafpmpnhleaaDa
import Derived.Lib.SmallJoins
import Derived.ChangeSame
set_option maxRecDepth 100000
namespace Go.Proofs.Ythmmafpmpnhleaa
open Go.ChangeShapes Go.WideShapes Go.RowKit Go.Joins
set_option linter.unusedVariables false

theorem cellsDesc : Try.prog.cellsOf 35 = 4 := by kernel_rfl
theorem open_desc {H : Type} {enc : TypeId × Value → H} {w : World} {base b0 : Nat} {spare : Nat → Bool} {held : Bool} {r : Reach} {v : Value} {d : DataW H} {p : List MemPlace}
    (hv : Value.okWide Try.prog w r b0 35 v) (h : DataW.Trod enc Try.prog w base spare held 35 v d p) :
    ∃ (l : Int) (k s : Bool) (f : Int), v = dsc l k s f ∧ (Lit.int .i64 l).wf = true ∧ (Lit.int .u16 f).wf = true := by
  obtain ⟨v0, v1, v2, v3, y0, y1, y2, y3, n, rfl, _, _, h0, h1, h2, h3⟩ := open_agg4 Try.underlying35 (by kernel_rfl) cellsDesc hv h
  obtain ⟨l, e0, _, w0⟩ := DataW.trod_int Try.underlying3 h0
  obtain ⟨k, e1, _⟩ := DataW.trod_bool Try.underlying4 h1
  obtain ⟨s, e2, _⟩ := DataW.trod_bool Try.underlying4 h2
  obtain ⟨f, e3, _, w3⟩ := DataW.trod_int Try.underlying29 h3
  simp only [List.cons.injEq, and_true] at e0 e1 e2 e3
  subst e0 e1 e2 e3
  exact ⟨l, k, s, f, rfl, w0, w3⟩
end Go.Proofs.Ythmmafpmpnhleaa
