/- A clock that came in, opened. -/
import Derived.Test.YtheabchdhenjjaaFr
import Derived.Test.YtheabchdhenjjaaJg
import Derived.Lib.SmallJoins
import Derived.ChangeSame
set_option maxRecDepth 100000
namespace Go.Proofs.Ytheabchdhenjjaa.Clk
open Go.ChangeShapes Go.WideShapes Go.RowKit Go.Joins
set_option linter.unusedVariables false

theorem cellsCk : Try.prog.cellsOf 24 = 3 := by kernel_rfl
theorem open_clock {H : Type} {enc : TypeId × Value → H} {w : World} {base b0 : Nat} {spare : Nat → Bool} {held : Bool} {r : Reach} {v : Value} {d : DataW H} {p : List MemPlace}
    (hv : Value.okWide Try.prog w r b0 24 v) (h : DataW.Trod enc Try.prog w base spare held 24 v d p) :
    ∃ x : Ck, v = ckV x ∧ CkOk x := by
  obtain ⟨v0, v1, v2, y0, y1, y2, n, rfl, _, _, h0, h1, h2⟩ := open_agg3 Try.underlying24 (by kernel_rfl) cellsCk hv h
  obtain ⟨l, e0, _⟩ := DataW.trod_bool Try.underlying4 h0
  obtain ⟨a, e1, _, w1⟩ := DataW.trod_int Try.underlying22 h1
  obtain ⟨o, e2, _, w2⟩ := DataW.trod_int Try.underlying22 h2
  simp only [List.cons.injEq, and_true] at e0 e1 e2
  subst e0 e1 e2
  exact ⟨(l, a, o), rfl, wf_u32 w1, wf_u32 w2⟩
end Go.Proofs.Ytheabchdhenjjaa.Clk
