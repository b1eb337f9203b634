/- A packet whose lists lie at a block or behind it. No function of the program. -/
import Derived.Test.YtdnnfoacpjgloaaKg
set_option maxRecDepth 100000
namespace Go.Proofs.Ytdnnfoacpjgloaa.Rtp
open Go.RowKit
set_option linter.unusedVariables false

/-- A packet's lists lie at block B or behind it. -/
structure PNw (B : Nat) (p : Pkt) (l : Loc) : Prop where
  csrc : 0 < p.csrc.length → ∃ a, l.ca = some a ∧ B ≤ a.block
  ext : 0 < p.ext.length → ∃ a, l.ea = some a ∧ B ≤ a.block
  pay : 0 < p.pay.length → ∃ a, l.pa = some a ∧ B ≤ a.block
theorem PNw.zero (B : Nat) (l : Loc) : PNw B zeroPkt l := ⟨fun h => absurd h (by decide), fun h => absurd h (by decide), fun h => absurd h (by decide)⟩
/-- What is changed lies ahead of a packet's lists. -/
theorem PRd.far {w w' : World} {B b : Nat} {p : Pkt} {l : Loc} (h : PRd w B p l) (hn : PNw b p l) (ho : ∀ i, b ≤ i → w'.heap[i]? = w.heap[i]?) : PRd w' B p l := by
  have hc : ∀ (g o : Nat), b ≤ g → w'.cell? ⟨g, o, none⟩ = w.cell? ⟨g, o, none⟩ := fun g o hg => by simp only [World.cell?, ho g hg]
  obtain ⟨h1, h2, h3, h4, h5, h6, h7, h8, h9⟩ := h
  refine ⟨⟨h1.1, h1.2.1, fun hp => ?_⟩, ⟨h2.1, h2.2.1, fun hp => ?_⟩, ⟨h3.1, h3.2.1, fun hp => ?_⟩, h4, h5, h6, h7, h8, h9⟩
  · obtain ⟨g, o, e, hl, hk⟩ := h1.2.2 hp
    obtain ⟨a, e', hb⟩ := hn.csrc hp
    rw [e] at e'
    injection e' with e'
    subst e'
    exact ⟨g, o, e, hl, fun i hi => (hc g (o + i) hb).trans (hk i hi)⟩
  · obtain ⟨g, o, e, hl, hk⟩ := h2.2.2 hp
    obtain ⟨a, e', hb⟩ := hn.ext hp
    rw [e] at e'
    injection e' with e'
    subst e'
    exact ⟨g, o, e, hl, fun i hi => (hc g (o + i) hb).trans (hk i hi)⟩
  · obtain ⟨g, o, e, hl, hk⟩ := h3.2.2 hp
    obtain ⟨a, e', hb⟩ := hn.pay hp
    rw [e] at e'
    injection e' with e'
    subst e'
    exact ⟨g, o, e, hl, fun i hi => (hc g (o + i) hb).trans (hk i hi)⟩
end Go.Proofs.Ytdnnfoacpjgloaa.Rtp
