/- '[]byte(s)': a row of bytes of the call's own, and back. -/
import Derived.Test.YtijacgnoljnlpaaBn
import Derived.Laws.IdiomStrings
import Derived.Laws.AppendOwn
import Derived.Lib.BufferMore
namespace Go.Proofs.Ytijacgnoljnlpaa
open Go.RowKit
set_option linter.unusedVariables false

/-- A row of bytes with room behind, no cell of it frozen. -/
structure Brow (w : World) (g : Nat) (cl : List UInt8) (T : List Value) (M : Nat) : Prop where
  heap : w.heap[g]? = some (.cells (Lib.byteCells cl ++ T).toArray 5 (M, M + 1))
  fits : cl.length ≤ M

theorem Brow.lt {w : World} {g : Nat} {cl : List UInt8} {T : List Value} {M : Nat} (h : Brow w g cl T M) : g < w.heap.size := (Array.getElem?_eq_some_iff.1 h.heap).1
theorem Brow.cell {w : World} {g : Nat} {cl : List UInt8} {T : List Value} {M : Nat} (h : Brow w g cl T M) (i : Nat) (hi : i < cl.length) : w.cell? ⟨g, i, none⟩ = some (.int .u8 ((cl.getD i 0).toNat : Int)) := by
  rw [Lib.cell_of_heap h.heap, List.getElem?_toArray, List.getElem?_append_left (by rw [Lib.byteCells_length]; exact hi)]
  simp [Lib.byteCells, List.getElem?_eq_getElem hi]
theorem Brow.frozen {w : World} {g : Nat} {cl : List UInt8} {T : List Value} {M : Nat} (h : Brow w g cl T M) (i : Nat) (hi : i < cl.length) : w.frozen? ⟨g, i, none⟩ = false := by
  have := h.fits
  simp only [World.frozen?, h.heap]
  simp
  omega
theorem Brow.put {w : World} {g : Nat} {cl : List UInt8} {T : List Value} {M : Nat} (h : Brow w g cl T M) (i : Nat) (hi : i < cl.length) (y : UInt8) (z : Int) (hz : z = (y.toNat : Int)) :
    Brow (w.setCell ⟨g, i, none⟩ (.int .u8 z)) g (cl.set i y) T M := by
  subst hz
  refine ⟨?_, by rw [List.length_set]; exact h.fits⟩
  rw [Lib.heap_setCell_same h.heap, List.setIfInBounds_toArray, List.set_append_left _ _ (by rw [Lib.byteCells_length]; exact hi)]
  simp [Lib.byteCells, List.map_set]
theorem Brow.below {w w' : World} {g B : Nat} {cl : List UInt8} {T : List Value} {M : Nat} (h : Brow w g cl T M) (hb : Below B w w') (hg : g < B) : Brow w' g cl T M :=
  ⟨(hb.block g hg).trans h.heap, h.fits⟩

/-- '[]byte(s)': a new row. -/
theorem bytes_run (w : World) (s : ByteArray) : ∃ C T M W, (convert 9 31 (.string s)).run Try.prog w = .ok (.slice (some ⟨w.heap.size, 0, none⟩) s.size C) W ∧ s.size ≤ C ∧ Brow W w.heap.size s.data.toList T M ∧ Below w.heap.size w W := by
  refine ⟨_, List.replicate (grownCap w s.size 0 5 - s.size) (.int .u8 0), (bytesRow s (grownCap w s.size 0 5)).size, _, run_bytes_of_string w _ _ _ s Try.underlying9 Try.underlying31 Try.underlying5, grownCap_ge w s.size 0 5, ⟨?_, ?_⟩, (Below.refl _ w).drew.alloc (Nat.le_refl _) _⟩
  · have : w.drew.heap.size = w.heap.size := rfl
    rw [← this, heap_alloc_new]
    congr 2
    apply Array.ext'
    simp [bytesRow, Lib.byteCells]
  · rw [len_eq]
    simp [bytesRow]

theorem back_run (w : World) (g : Nat) (cl : List UInt8) (T : List Value) (M c : Nat) (h : Brow w g cl T M) :
    (convert 31 9 (.slice (some ⟨g, 0, none⟩) cl.length c)).run Try.prog w = .ok (.string ⟨cl.toArray⟩) w := by
  refine run_convert_bytes_back w _ _ _ ⟨g, 0, none⟩ c cl Try.underlying31 Try.underlying5 Try.underlying9 fun j hj => ?_
  have := h.cell j hj
  rw [show (⟨g, 0, none⟩ : Addr).add j = ⟨g, j, none⟩ by unfold Addr.add; split <;> simp_all]
  rw [this]
  simp [List.getElem?_eq_getElem hj]

end Go.Proofs.Ytijacgnoljnlpaa
