/- Four fields that came in, opened. -/
import Derived.Test.YtjmlimfheiogcaaFr
import Derived.Test.YtjmlimfheiogcaaNa
import Derived.Lib.SmallJoins
import Derived.ChangeSame
namespace Go.Proofs.Ytjmlimfheiogcaa
open Go.ChangeShapes Go.WideShapes Go.RowKit Go.Joins
set_option linter.unusedVariables false

theorem cellsPatch : Try.prog.cellsOf 26 = 4 := by kernel_rfl
theorem open_patch {H : Type} {enc : TypeId × Value → H} {w : World} {base b0 : Nat} {spare : Nat → Bool} {held : Bool} {r : Reach} {v : Value} {d : DataW H} {p : List MemPlace}
    (hv : Value.okWide Try.prog w r b0 26 v) (h : DataW.Trod enc Try.prog w base spare held 26 v d p) :
    ∃ (q t s f : Int), v = Pat.pch q t s f ∧ Pat.PF q t s f := by
  obtain ⟨v0, v1, v2, v3, y0, y1, y2, y3, n, rfl, _, _, h0, h1, h2, h3⟩ := open_agg4 Try.underlying26 (by kernel_rfl) cellsPatch hv h
  obtain ⟨q, e0, _, w0⟩ := DataW.trod_int Try.underlying23 h0
  obtain ⟨t, e1, _, w1⟩ := DataW.trod_int Try.underlying24 h1
  obtain ⟨s, e2, _, w2⟩ := DataW.trod_int Try.underlying24 h2
  obtain ⟨f, e3, _, w3⟩ := DataW.trod_int Try.underlying23 h3
  simp only [List.cons.injEq, and_true] at e0 e1 e2 e3
  subst e0 e1 e2 e3
  exact ⟨q, t, s, f, rfl, (wf_u16 w0).1, (wf_u16 w0).2, (wf_u32 w1).1, (wf_u32 w1).2, (wf_u32 w2).1, (wf_u32 w2).2, (wf_u16 w3).1, (wf_u16 w3).2⟩
end Go.Proofs.Ytjmlimfheiogcaa
