/- Rows of ints as rows of records of one cell. No function of the program. -/
import Derived.Test.YtmnkeogfklbjgaaXs
import Derived.Test.YtmnkeogfklbjgaaFr
set_option maxRecDepth 100000
namespace Go.Proofs.Ytmnkeogfklbjgaa
open Go.RowKit
set_option linter.unusedVariables false

def i64L : Lay Int := ⟨3, 1, fun x => [.int .i64 x], fun _ => rfl, fun x v hv => by
  simp only [List.mem_cons, List.not_mem_nil, or_false] at hv
  subst hv; rfl, by decide⟩
/-- The cell of a row's k-th number. -/
theorem i64_at {w : World} {B n k : Nat} {a : Option Addr} {xs : List Int} (h : RowRd i64L w B a n xs) (hk : k < n) : ∃ b off x, a = some ⟨b, off, none⟩ ∧ b < B ∧ xs[k]? = some x ∧ w.cell? ⟨b, off + k, none⟩ = some (.int .i64 x) := by
  obtain ⟨b, off, e, hlt, hc⟩ := h.2 (by omega)
  obtain ⟨x, hx⟩ : ∃ x, xs[k]? = some x := ⟨_, List.getElem?_eq_getElem (show k < xs.length from by rw [h.1]; exact hk)⟩
  have hq : w.cell? ⟨b, off + k * 1 + 0, none⟩ = some (.int .i64 x) := hc k x hx 0 _ rfl
  rw [Nat.mul_one, Nat.add_zero] at hq
  exact ⟨b, off, x, e, hlt, hx, hq⟩
theorem IsRow.rd64 {w : World} {a : Option Addr} {len cap : Nat} {zs : List Int} (h : IsRow .i64 8 w a len cap zs) : len ≤ 140737488351232 ∧ len ≤ cap ∧ RowRd i64L w w.heap.size a len (zs.take len) := by
  obtain ⟨h1, h2, h3, h4, h5⟩ := h.cells
  refine ⟨by omega, h1, ⟨h3, fun hp => ?_⟩⟩
  obtain ⟨b, off, e, hlt, hc⟩ := h5 hp
  refine ⟨b, off, e, hlt, fun i x hx j v hv => ?_⟩
  have hi : i < len := by have := (List.getElem?_eq_some_iff.1 hx).1; omega
  match j with
  | 0 =>
    simp only [i64L, List.getElem?_cons_zero, Option.some.injEq] at hv
    subst hv
    rw [show i64L.s = 1 from rfl, Nat.mul_one, Nat.add_zero, hc i hi, List.getD_eq_getElem?_getD, hx]
    rfl
  | j + 1 => simp [i64L] at hv
end Go.Proofs.Ytmnkeogfklbjgaa
