/- A slice of structs that came in, opened. Nothing of the program. -/
import Derived.Test.YtjbgfaoancmknaaFr
import Derived.Test.YtjbgfaoancmknaaAg
import Derived.Lib.SmallJoins
namespace Go.Proofs.Ytjbgfaoancmknaa
open Go.ChangeShapes Go.WideShapes Go.RowKit Go.Joins Go.Deep
set_option linter.unusedVariables false

section
variable {H : Type} {enc : TypeId × Value → H} {P : Program} {w : World} {held : Bool}
/-- A slice of structs of one-cell fields, opened at every index. -/
theorem open_rows {t e : TypeId} {fs : Array Field} {fuel : Nat} {u : Value} {y : DataW H × List MemPlace} (ht : P.underlying t = some (.slice e)) (he : P.underlying e = some (.struct fs)) (hone : oneCellFields P fs = true) (hC : P.cellsOf e = fs.size) (hpos : 0 < fs.size)
    (h : DataW.trod enc P w 0 (fun _ => true) held fuel t [u] = some y) (hsz : ∀ el sp, y.1 = .slice el sp → (el.length + sp.length) * P.bytesOf e ≤ reachBytes) :
    ∃ a len cap, u = .slice a len cap ∧ len ≤ cap ∧ cap * P.bytesOf e ≤ reachBytes ∧ (0 < len → ∃ b off, a = some ⟨b, off, none⟩ ∧ b < w.heap.size ∧
      ∀ i, i < len → ∀ (j : Nat) (f : Field), fs[j]? = some f → ∃ (v : Value) (y' : DataW H × List MemPlace) (n : Nat), w.cell? ⟨b, off + i * fs.size + j, none⟩ = some v ∧ DataW.trod enc P w 0 (fun _ => true) held n f.type [v] = some y') := by
  rcases open_slice ht h with ⟨hcs, _⟩ | ⟨a, len, cap, m, n, D, Pl, hcs, _, hl, hm, hmm, hy, hx⟩
  · simp only [List.cons.injEq, and_true] at hcs
    exact ⟨none, 0, 0, hcs, Nat.le_refl _, by simp, fun h => absurd h (by omega)⟩
  · simp only [List.cons.injEq, and_true] at hcs
    simp only [if_true] at hmm
    have hb := hsz _ _ (by rw [hy])
    simp only [List.length_map, List.length_range] at hb
    rw [show len + (m - len) = cap from by omega] at hb
    refine ⟨some a, len, cap, hcs, hl, hb, fun hp => ?_⟩
    have cells : ∀ i, i < len → ∃ cs', w.cells? 0 (a.add (i * fs.size)) fs.size = some cs' ∧ DataW.trod enc P w 0 (fun _ => true) held n e cs' = some (D i, Pl i) := fun i hi => by
      have := hx i (by omega)
      rwa [hC] at this
    obtain ⟨b, off, spot⟩ := a
    have hspot : spot = none ∧ b < w.heap.size := by
      obtain ⟨cs', h1, _⟩ := cells 0 hp
      obtain ⟨_, hlen, hcell⟩ := World.cells?_some h1
      have h0 := hcell 0 hpos
      rw [add_add, Nat.zero_mul, Nat.zero_add, List.getElem?_eq_getElem (by omega)] at h0
      exact ⟨by simpa [Addr.add] using World.cell?_spot h0, by simpa [Addr.add] using World.block_lt_of_cell? w _ h0⟩
    obtain ⟨rfl, hbw⟩ := hspot
    refine ⟨b, off, rfl, hbw, fun i hi j f hf => ?_⟩
    obtain ⟨cs', h1, h2⟩ := cells i hi
    obtain ⟨_, hlen, hcell⟩ := World.cells?_some h1
    obtain ⟨xs, k, _, _, _, hxl, hg⟩ := DataW.trod_struct he h2
    obtain ⟨ho, hk⟩ := hone_of hone j f hf
    have hjl : j < fs.size := (Array.getElem?_eq_some_iff.1 hf).1
    have g := hg j f hf
    rw [ho, hk, List.drop_eq_getElem_cons (by omega), List.take_succ_cons, List.take_zero, List.getElem?_eq_getElem (by omega)] at g
    have hc := hcell j hjl
    rw [add_add, add_plain, List.getElem?_eq_getElem (by omega)] at hc
    exact ⟨_, _, _, (by rw [Nat.add_assoc]; exact hc), g⟩
end
end Go.Proofs.Ytjbgfaoancmknaa
