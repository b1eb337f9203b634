/- What the walks over bytes are told of a slice of bytes that came in. -/
import Derived.Test.YtdnnfoacpjgloaaFr
import Derived.Test.YtdnnfoacpjgloaaXr
set_option maxRecDepth 100000
namespace Go.Proofs.Ytdnnfoacpjgloaa
open Go.RowKit
set_option linter.unusedVariables false

theorem IsRow.rd {w : World} {a : Option Addr} {len cap : Nat} {zs : List Int} (h : IsRow .u8 1 w a len cap zs) : len ≤ 140737488351232 ∧ len ≤ cap ∧ Rd w w.heap.size a len (zs.take len) := by
  obtain ⟨h1, h2, h3, h4, h5⟩ := h.cells
  exact ⟨by omega, h1, h3, fun n hn => wf_byte (h4 n hn), h5⟩
end Go.Proofs.Ytdnnfoacpjgloaa
