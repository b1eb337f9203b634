/- A gate that came in, opened; a slice of the gate laws' acts. -/
import Derived.Test.YtmnkeogfklbjgaaFl
import Derived.Test.YtmnkeogfklbjgaaJn
import Derived.Lib.SmallJoins
import Derived.ChangeSame
set_option maxRecDepth 100000
namespace Go.Proofs.Ytmnkeogfklbjgaa.Gat
open Go.ChangeShapes Go.WideShapes Go.RowKit Go.Joins
set_option linter.unusedVariables false

theorem cellsGt : Try.prog.cellsOf 23 = 4 := by kernel_rfl
theorem open_gate {H : Type} {enc : TypeId × Value → H} {w : World} {base b0 : Nat} {spare : Nat → Bool} {held : Bool} {r : Reach} {v : Value} {d : DataW H} {p : List MemPlace}
    (hv : Value.okWide Try.prog w r b0 23 v) (h : DataW.Trod enc Try.prog w base spare held 23 v d p) :
    ∃ x : Gt, v = gtV x := by
  obtain ⟨v0, v1, v2, v3, y0, y1, y2, y3, n, rfl, _, _, h0, h1, h2, h3⟩ := open_agg4 Try.underlying23 (by kernel_rfl) cellsGt hv h
  obtain ⟨a, e0, _, _⟩ := DataW.trod_int Try.underlying3 h0
  obtain ⟨c, e1, _, _⟩ := DataW.trod_int Try.underlying3 h1
  obtain ⟨l, e2, _⟩ := DataW.trod_bool Try.underlying4 h2
  obtain ⟨m, e3, _⟩ := DataW.trod_bool Try.underlying4 h3
  simp only [List.cons.injEq, and_true] at e0 e1 e2 e3
  subst e0 e1 e2 e3
  exact ⟨(a, c, l, m), rfl⟩
/-- A gate law's act: which, the layer, on? -/
abbrev Gact := Int × Int × Bool
def gactL : Lay Gact := ⟨34, 3, fun x => [.int .i64 x.1, .int .i64 x.2.1, .bool x.2.2], fun _ => rfl, fun x v hv => by
  simp only [List.mem_cons, List.not_mem_nil, or_false] at hv
  rcases hv with rfl | rfl | rfl <;> rfl, by decide⟩
def GactOk (_ : Gact) : Prop := True
theorem cellsGact : Try.prog.cellsOf 34 = 3 := by kernel_rfl
theorem bytesGact : Try.prog.bytesOf 34 = 24 := by kernel_rfl
theorem cells_int : Try.prog.cellsOf 3 = 1 := by kernel_rfl
theorem cells_bool : Try.prog.cellsOf 4 = 1 := by kernel_rfl
theorem gact_of {H : Type} {enc : TypeId × Value → H} {w : World} {held : Bool} {n : Nat} {cs : List Value} {x : DataW H × List MemPlace} (hl : cs.length = 3) (h : DataW.trod enc Try.prog w 0 (fun _ => true) held n 34 cs = some x) : ∃ v : Gact, cs = gactL.cel v ∧ GactOk v := by
  obtain ⟨c0, c1, c2, rfl⟩ : ∃ a b c, cs = [a, b, c] := by
    match cs, hl with
    | [a, b, c], _ => exact ⟨a, b, c, rfl⟩
  obtain ⟨xs, m, _, _, _, hxl, hg⟩ := DataW.trod_struct Try.underlying34 h
  have hxl2 : xs.length = 3 := hxl
  have g0 : DataW.trod enc Try.prog w 0 (fun _ => true) held m 3 (List.take (Try.prog.cellsOf 3) (List.drop 0 [c0, c1, c2])) = xs[0]? := hg 0 _ rfl
  have g1 : DataW.trod enc Try.prog w 0 (fun _ => true) held m 3 (List.take (Try.prog.cellsOf 3) (List.drop 1 [c0, c1, c2])) = xs[1]? := hg 1 _ rfl
  have g2 : DataW.trod enc Try.prog w 0 (fun _ => true) held m 4 (List.take (Try.prog.cellsOf 4) (List.drop 2 [c0, c1, c2])) = xs[2]? := hg 2 _ rfl
  rw [List.getElem?_eq_getElem (by omega)] at g0 g1 g2
  rw [cells_int] at g0 g1
  rw [cells_bool] at g2
  obtain ⟨a, a0, _, _⟩ := DataW.trod_int Try.underlying3 g0
  obtain ⟨b, a1, _, _⟩ := DataW.trod_int Try.underlying3 g1
  obtain ⟨c, a2, _⟩ := DataW.trod_bool Try.underlying4 g2
  simp only [List.drop_zero, List.take_succ_cons, List.take_zero, List.drop_succ_cons, List.cons.injEq, and_true] at a0 a1 a2
  subst a0 a1 a2
  exact ⟨(a, b, c), rfl, trivial⟩
theorem open_gacts {H : Type} {enc : TypeId × Value → H} {w : World} {held : Bool} {fuel : Nat} {u : Value} {y : DataW H × List MemPlace} (h : DataW.trod enc Try.prog w 0 (fun _ => true) held fuel 32 [u] = some y) (hsz : ∀ el sp, y.1 = .slice el sp → (el.length + sp.length) * Try.prog.bytesOf 34 ≤ reachBytes) :
    ∃ (a : Option Addr) (cap : Nat) (xs : List Gact), u = .slice a xs.length cap ∧ xs.length ≤ cap ∧ xs.length * 24 ≤ 140737488351232 ∧ (∀ x ∈ xs, GactOk x) ∧ RowRd gactL w w.heap.size a xs.length xs :=
  Opn.open_lay (L := gactL) (Ok := GactOk) Try.underlying32 cellsGact bytesGact (fun n cs x hl h => gact_of hl h) h hsz
end Go.Proofs.Ytmnkeogfklbjgaa.Gat
