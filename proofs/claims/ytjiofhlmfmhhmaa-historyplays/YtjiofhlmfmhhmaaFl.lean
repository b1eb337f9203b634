/- A slice of records that came in, whatever their layout, opened; a slice of truth values as such. No function of the program. -/
import Derived.Test.YtjiofhlmfmhhmaaFr
import Derived.Test.YtjiofhlmfmhhmaaXs
import Derived.Test.YtjiofhlmfmhhmaaAg
set_option maxRecDepth 100000
namespace Go.Proofs.Ytjiofhlmfmhhmaa.Opn
open Go.ChangeShapes Go.WideShapes Go.RowKit Go.Joins Go.Deep
set_option linter.unusedVariables false

section
variable {H : Type} {enc : TypeId × Value → H} {P : Program} {w : World} {held : Bool}
theorem open_recs {t e : TypeId} {C fuel : Nat} {u : Value} {y : DataW H × List MemPlace} (ht : P.underlying t = some (.slice e)) (hC : P.cellsOf e = C) (hpos : 0 < C)
    (h : DataW.trod enc P w 0 (fun _ => true) held fuel t [u] = some y) (hsz : ∀ el sp, y.1 = .slice el sp → (el.length + sp.length) * P.bytesOf e ≤ reachBytes) :
    ∃ a len cap, u = .slice a len cap ∧ len ≤ cap ∧ cap * P.bytesOf e ≤ reachBytes ∧ (0 < len → ∃ b off, a = some ⟨b, off, none⟩ ∧ b < w.heap.size ∧
      ∀ i, i < len → ∃ (cs : List Value) (n : Nat) (x : DataW H × List MemPlace), cs.length = C ∧ DataW.trod enc P w 0 (fun _ => true) held n e cs = some x ∧ ∀ (j : Nat) (v : Value), cs[j]? = some v → w.cell? ⟨b, off + i * C + j, none⟩ = some v) := by
  rcases open_slice ht h with ⟨hcs, _⟩ | ⟨a, len, cap, m, n, D, Pl, hcs, _, hl, hm, hmm, hy, hx⟩
  · simp only [List.cons.injEq, and_true] at hcs
    exact ⟨none, 0, 0, hcs, Nat.le_refl _, by simp, fun h => absurd h (by omega)⟩
  · simp only [List.cons.injEq, and_true] at hcs
    simp only [if_true] at hmm
    have hb := hsz _ _ (by rw [hy])
    simp only [List.length_map, List.length_range] at hb
    rw [show len + (m - len) = cap from by omega] at hb
    refine ⟨some a, len, cap, hcs, hl, hb, fun hp => ?_⟩
    have cells : ∀ i, i < len → ∃ cs', w.cells? 0 (a.add (i * C)) C = some cs' ∧ DataW.trod enc P w 0 (fun _ => true) held n e cs' = some (D i, Pl i) := fun i hi => by
      have := hx i (by omega)
      rwa [hC] at this
    obtain ⟨b, off, spot⟩ := a
    have hspot : spot = none ∧ b < w.heap.size := by
      obtain ⟨cs', h1, _⟩ := cells 0 hp
      obtain ⟨_, hlen, hcell⟩ := World.cells?_some h1
      have h0 := hcell 0 hpos
      rw [add_add, Nat.zero_mul, Nat.zero_add, List.getElem?_eq_getElem (by omega)] at h0
      exact ⟨by simpa [Addr.add] using World.cell?_spot h0, by simpa [Addr.add] using World.block_lt_of_cell? w _ h0⟩
    obtain ⟨rfl, hbw⟩ := hspot
    refine ⟨b, off, rfl, hbw, fun i hi => ?_⟩
    obtain ⟨cs', h1, h2⟩ := cells i hi
    obtain ⟨_, hlen, hcell⟩ := World.cells?_some h1
    refine ⟨cs', n, _, hlen, h2, fun j v hv => ?_⟩
    have hj : j < C := by have := (List.getElem?_eq_some_iff.1 hv).1; omega
    have hc := hcell j hj
    rw [add_add, add_plain, hv] at hc
    rw [Nat.add_assoc]; exact hc
/-- A slice of records that came in, whatever their layout. -/
theorem open_lay {α : Type} [Inhabited α] {L : Lay α} {Ok : α → Prop} {t : TypeId} {B fuel : Nat} {u : Value} {y : DataW H × List MemPlace} (ht : P.underlying t = some (.slice L.e)) (hC : P.cellsOf L.e = L.s) (hB : P.bytesOf L.e = B)
    (hE : ∀ (n : Nat) (cs : List Value) (x : DataW H × List MemPlace), cs.length = L.s → DataW.trod enc P w 0 (fun _ => true) held n L.e cs = some x → ∃ v : α, cs = L.cel v ∧ Ok v)
    (h : DataW.trod enc P w 0 (fun _ => true) held fuel t [u] = some y) (hsz : ∀ el sp, y.1 = .slice el sp → (el.length + sp.length) * P.bytesOf L.e ≤ reachBytes) :
    ∃ (a : Option Addr) (cap : Nat) (xs : List α), u = .slice a xs.length cap ∧ xs.length ≤ cap ∧ xs.length * B ≤ 140737488351232 ∧ (∀ x ∈ xs, Ok x) ∧ RowRd L w w.heap.size a xs.length xs := by
  obtain ⟨a, len, cap, rfl, hl, hb, hc⟩ := open_recs ht hC L.pos h hsz
  rw [hB] at hb
  simp only [reachBytes] at hb
  have hle : len * B ≤ 140737488351232 := Nat.le_trans (Nat.mul_le_mul_right _ hl) hb
  rcases Nat.eq_zero_or_pos len with h0 | h0
  · subst h0
    exact ⟨a, cap, [], rfl, Nat.zero_le _, by simp, fun x hx => by simp at hx, RowRd.none_ _ rfl⟩
  obtain ⟨b, off, rfl, hbw, hc⟩ := hc h0
  have each : ∀ i, i < len → ∃ x : α, Ok x ∧ ∀ j v, (L.cel x)[j]? = some v → w.cell? ⟨b, off + i * L.s + j, none⟩ = some v := fun i hi => by
    obtain ⟨cs, n, x, h1, h2, h3⟩ := hc i hi
    obtain ⟨v, rfl, hv⟩ := hE n cs x h1 h2
    exact ⟨v, hv, h3⟩
  obtain ⟨V, hV⟩ := choose_lt each
  have hlen : ((List.range len).map V).length = len := by simp
  refine ⟨some ⟨b, off, none⟩, cap, (List.range len).map V, by rw [hlen], by rw [hlen]; exact hl, by rw [hlen]; exact hle, fun x hx => ?_, ?_⟩
  · obtain ⟨i, hi, rfl⟩ := List.mem_map.1 hx
    exact (hV i (List.mem_range.1 hi)).1
  · rw [hlen]
    refine ⟨hlen, fun _ => ⟨b, off, rfl, hbw, fun i x hx => ?_⟩⟩
    have hi : i < len := by
      have := (List.getElem?_eq_some_iff.1 hx).1
      rwa [hlen] at this
    rw [List.getElem?_map, List.getElem?_range hi] at hx
    obtain rfl : V i = x := Option.some.inj hx
    exact (hV i hi).2
end
theorem row_cells {α : Type} {L : Lay α} {w : World} {B n k : Nat} {a : Option Addr} {xs : List α} (h : RowRd L w B a n xs) (hk : k < n) : ∃ b off x, a = some ⟨b, off, none⟩ ∧ b < B ∧ xs[k]? = some x ∧ ∀ j v, (L.cel x)[j]? = some v → w.cell? ⟨b, off + k * L.s + j, none⟩ = some v := by
  obtain ⟨b, off, e, hlt, hc⟩ := h.2 (by omega)
  obtain ⟨x, hx⟩ : ∃ x, xs[k]? = some x := ⟨_, List.getElem?_eq_getElem (show k < xs.length from by rw [h.1]; exact hk)⟩
  exact ⟨b, off, x, e, hlt, hx, hc k x hx⟩
end Go.Proofs.Ytjiofhlmfmhhmaa.Opn
