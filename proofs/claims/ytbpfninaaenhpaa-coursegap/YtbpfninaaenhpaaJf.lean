/- A course that came in, opened. -/
import Derived.Test.YtbpfninaaenhpaaFr
import Derived.Test.YtbpfninaaenhpaaJa
import Derived.Lib.SmallJoins
import Derived.ChangeSame
set_option maxRecDepth 100000
namespace Go.Proofs.Ytbpfninaaenhpaa.Crs
open Go.ChangeShapes Go.WideShapes Go.RowKit Go.Joins
set_option linter.unusedVariables false

theorem cellsCo : Try.prog.cellsOf 24 = 4 := by kernel_rfl
theorem open_course {H : Type} {enc : TypeId × Value → H} {w : World} {base b0 : Nat} {spare : Nat → Bool} {held : Bool} {r : Reach} {v : Value} {d : DataW H} {p : List MemPlace}
    (hv : Value.okWide Try.prog w r b0 24 v) (h : DataW.Trod enc Try.prog w base spare held 24 v d p) :
    ∃ x : Co, v = coV x ∧ CoOk x := by
  obtain ⟨v0, v1, v2, v3, y0, y1, y2, y3, n, rfl, _, _, h0, h1, h2, h3⟩ := open_agg4 Try.underlying24 (by kernel_rfl) cellsCo hv h
  obtain ⟨l, e0, _⟩ := DataW.trod_bool Try.underlying4 h0
  obtain ⟨a, e1, _, w1⟩ := DataW.trod_int Try.underlying22 h1
  obtain ⟨o, e2, _, w2⟩ := DataW.trod_int Try.underlying22 h2
  obtain ⟨m, e3, _, w3⟩ := DataW.trod_int Try.underlying22 h3
  simp only [List.cons.injEq, and_true] at e0 e1 e2 e3
  subst e0 e1 e2 e3
  exact ⟨(l, a, o, m), rfl, wf_u16 w1, wf_u16 w2, wf_u16 w3⟩
end Go.Proofs.Ytbpfninaaenhpaa.Crs
