/- The contracts of rtp.number, words, copied, headErr, padding. -/
import Derived.Test.YtjmlimfheiogcaaKa
import Derived.Test.YtjmlimfheiogcaaXg
import Derived.Test.YtjmlimfheiogcaaXw
namespace Go.Proofs.Ytjmlimfheiogcaa.Rtp
open Go.RowKit
set_option linter.unusedVariables false

/-- Of bytes that are all there. -/
theorem numGet_nb (xs : List Int) (i s : Nat) (h1 : 1 ≤ s) (h2 : s ≤ 8) (h3 : i + s ≤ xs.length) : numGet xs i s = nb xs i s := by
  have hw : withinB xs.length i s = true := by simp [withinB]; omega
  rw [numGet, hw, if_pos rfl]; rfl
/-- A new row of 32-bit numbers. -/
def NewW (w : World) (ys : List Int) (e : Ending) (w' : World) : Prop := ∃ A c, e = .returned (.slice A ys.length c) ∧ OwnW w' w.heap.size A ys.length c ys ∧ Below w.heap.size w w'

end Go.Proofs.Ytjmlimfheiogcaa.Rtp
