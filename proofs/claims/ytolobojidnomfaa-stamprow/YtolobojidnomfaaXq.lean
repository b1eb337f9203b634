/- Pairs in memory: rows of them, one that lies at a block. No function of the program. -/
import Derived.Test.YtolobojidnomfaaXs
set_option maxRecDepth 100000
namespace Go.Proofs.Ytolobojidnomfaa.Fbk
open Go.RowKit
set_option linter.unusedVariables false

def pairC (x : Int × Int) : List Value := [.int .u16 x.1, .int .u16 x.2]
def pairL : Lay (Int × Int) := ⟨99, 2, pairC, fun _ => rfl, fun x v hv => by
  simp only [pairC, List.mem_cons, List.not_mem_nil, or_false] at hv
  rcases hv with rfl | rfl <;> rfl, by decide⟩
/-- The cells of a row's k-th pair. -/
theorem pair_at {w : World} {B n k : Nat} {a : Option Addr} {xs : List (Int × Int)} (h : RowRd pairL w B a n xs) (hk : k < n) : ∃ b off x, a = some ⟨b, off, none⟩ ∧ b < B ∧ xs[k]? = some x ∧
    w.cell? ⟨b, off + k * 2, none⟩ = some (.int .u16 x.1) ∧ w.cell? ⟨b, off + k * 2 + 1, none⟩ = some (.int .u16 x.2) := by
  obtain ⟨b, off, e, hlt, hc⟩ := h.2 (by omega)
  have hx := List.getElem?_eq_getElem (show k < xs.length from by rw [h.1]; exact hk)
  exact ⟨b, off, _, e, hlt, hx, hc k _ hx 0 _ rfl, hc k _ hx 1 _ rfl⟩
abbrev pairO (x : Int × Int) : Obj := .cells #[.int .u16 x.1, .int .u16 x.2] 99 (0, 0)
def PrBlk (w : World) (b : Nat) (x : Int × Int) : Prop := w.heap[b]? = some (pairO x)
section
variable {w w' : World} {b B : Nat} {x : Int × Int}
theorem PrBlk.new (w : World) (x : Int × Int) : PrBlk (w.alloc (pairO x)) w.heap.size x := heap_alloc_new w _
theorem PrBlk.lt (h : PrBlk w b x) : b < w.heap.size := lt_of_some h
theorem PrBlk.bel (h : PrBlk w b x) (hb : Below w.heap.size w w') : PrBlk w' b x := (hb.block b h.lt).trans h
theorem PrBlk.c0 (h : PrBlk w b x) : w.cell? ⟨b, 0, none⟩ = some (.int .u16 x.1) := cell_of_row w b 0 _ 99 (0, 0) h
theorem PrBlk.c1 (h : PrBlk w b x) : w.cell? ⟨b, 1, none⟩ = some (.int .u16 x.2) := cell_of_row w b 1 _ 99 (0, 0) h
end
end Go.Proofs.Ytolobojidnomfaa.Fbk
