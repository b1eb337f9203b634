/- Four fields that came in, opened. -/
import Derived.Test.YtdnnfoacpjgloaaFr
import Derived.Test.YtdnnfoacpjgloaaNa
import Derived.Lib.SmallJoins
import Derived.ChangeSame
set_option maxRecDepth 100000
namespace Go.Proofs.Ytdnnfoacpjgloaa
open Go.ChangeShapes Go.WideShapes Go.RowKit Go.Joins
set_option linter.unusedVariables false

theorem cellsPatch : Try.prog.cellsOf 35 = 4 := by kernel_rfl
theorem open_patch {H : Type} {enc : TypeId × Value → H} {w : World} {base b0 : Nat} {spare : Nat → Bool} {held : Bool} {r : Reach} {v : Value} {d : DataW H} {p : List MemPlace}
    (hv : Value.okWide Try.prog w r b0 35 v) (h : DataW.Trod enc Try.prog w base spare held 35 v d p) :
    ∃ (q t s f : Int), v = Pat.pch q t s f ∧ Pat.PF q t s f := by
  obtain ⟨v0, v1, v2, v3, y0, y1, y2, y3, n, rfl, _, _, h0, h1, h2, h3⟩ := open_agg4 Try.underlying35 (by kernel_rfl) cellsPatch hv h
  obtain ⟨q, e0, _, w0⟩ := DataW.trod_int Try.underlying33 h0
  obtain ⟨t, e1, _, w1⟩ := DataW.trod_int Try.underlying29 h1
  obtain ⟨s, e2, _, w2⟩ := DataW.trod_int Try.underlying29 h2
  obtain ⟨f, e3, _, w3⟩ := DataW.trod_int Try.underlying33 h3
  simp only [List.cons.injEq, and_true] at e0 e1 e2 e3
  subst e0 e1 e2 e3
  exact ⟨q, t, s, f, rfl, (wf_u16 w0).1, (wf_u16 w0).2, (wf_u32 w1).1, (wf_u32 w1).2, (wf_u32 w2).1, (wf_u32 w2).2, (wf_u16 w3).1, (wf_u16 w3).2⟩
end Go.Proofs.Ytdnnfoacpjgloaa
