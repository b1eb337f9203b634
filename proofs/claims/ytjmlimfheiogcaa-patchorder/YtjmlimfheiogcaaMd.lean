/- The reference's Get behind the head's questions. -/
import Derived.Test.YtjmlimfheiogcaaMc
import Derived.Test.YtjmlimfheiogcaaSeq
namespace Go.Proofs.Ytjmlimfheiogcaa.Rtp
open Go.RowKit
set_option linter.unusedVariables false

/-- What stands while the reference reads: the result at its block, the empty packet at the next, the Csrc read so far. -/
structure Stg (w W : World) (v : PV) : Prop where
  below : Below w.heap.size w W
  res : PBlk W w.heap.size v
  zero : PBlk W (w.heap.size + 1) zpv
theorem Stg.lt {w W : World} {v : PV} (h : Stg w W v) : w.heap.size + 2 ≤ W.heap.size := h.zero.lt
theorem Stg.next {w W W' : World} {v : PV} (h : Stg w W v) (hb : Below (w.heap.size + 2) W W') : Stg w W' v := ⟨h.below.trans (hb.mono (by omega)), h.res.below hb (by omega), h.zero.below hb (by omega)⟩
theorem Stg.set {w W : World} {v u : PV} (h : Stg w W v) {k : Nat} {x : Value} (hu : PBlk (W.setCell ⟨w.heap.size, k, none⟩ x) w.heap.size u) : Stg w (W.setCell ⟨w.heap.size, k, none⟩ x) u :=
  ⟨h.below.setCell (p := ⟨w.heap.size, k, none⟩) (Nat.le_refl _) x, hu, h.zero.off (p := ⟨w.heap.size, k, none⟩) (by simp) x⟩
theorem _root_.Go.Proofs.Ytjmlimfheiogcaa.OwnW.bel {W W' : World} {B A n c xs} (h : OwnW W B A n c xs) (hb : Below W.heap.size W W') : OwnW W' B A n c xs := h.below hb (Nat.le_refl _)
theorem _root_.Go.Proofs.Ytjmlimfheiogcaa.Own.bel {W W' : World} {B A n c xs} (h : Own W B A n c xs) (hb : Below W.heap.size W W') : Own W' B A n c xs := h.below hb (Nat.le_refl _)
theorem padZ_drop (b : List Int) (i : Nat) (h : i < b.length) (hl : lastB b ≤ ((b.length - i : Nat) : Int)) : padZ (b.drop i) = padZ b := by
  unfold padZ
  rw [lastB_drop b i h, List.length_drop, List.drop_drop, show i + (b.length - i - (lastB b).toNat) = b.length - (lastB b).toNat from by omega]
def Sz (w W : World) : Prop := Below w.heap.size w W

end Go.Proofs.Ytjmlimfheiogcaa.Rtp
