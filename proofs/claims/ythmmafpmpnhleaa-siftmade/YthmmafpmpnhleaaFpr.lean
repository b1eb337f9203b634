/- A slice of pairs that came in, opened. -/
import Derived.Test.YthmmafpmpnhleaaAg
import Derived.Test.YthmmafpmpnhleaaQa
import Derived.Test.YthmmafpmpnhleaaXq
set_option maxRecDepth 100000
namespace Go.Proofs.Ythmmafpmpnhleaa.Fbk
open Go.ChangeShapes Go.WideShapes Go.RowKit Go.Joins Go.Deep
set_option linter.unusedVariables false

theorem cellsPair : Try.prog.cellsOf 108 = 2 := by kernel_rfl
theorem bytesPair : Try.prog.bytesOf 108 = 4 := by kernel_rfl
section
variable {H : Type} {enc : TypeId × Value → H} {w : World} {held : Bool}
theorem open_pairsB {fuel : Nat} {u : Value} {y : DataW H × List MemPlace} (h : DataW.trod enc Try.prog w 0 (fun _ => true) held fuel 66 [u] = some y) (hsz : ∀ el sp, y.1 = .slice el sp → (el.length + sp.length) * Try.prog.bytesOf 108 ≤ reachBytes) :
    ∃ (a : Option Addr) (cap : Nat) (xs : List (Int × Int)), u = .slice a xs.length cap ∧ xs.length ≤ cap ∧ xs.length * 4 ≤ 140737488351232 ∧ (∀ x ∈ xs, U16 x.1 ∧ U16 x.2) ∧ RowRd pairL w w.heap.size a xs.length xs := by
  obtain ⟨a, len, cap, rfl, hl, hb, hc⟩ := open_rows Try.underlying66 Try.underlying108 (by kernel_rfl) cellsPair (by decide) h hsz
  rw [bytesPair] at hb
  simp only [reachBytes] at hb
  have hle : len * 4 ≤ 140737488351232 := by omega
  rcases Nat.eq_zero_or_pos len with h0 | h0
  · subst h0
    exact ⟨a, cap, [], rfl, Nat.zero_le _, by simp, fun x hx => by simp at hx, RowRd.none_ _ rfl⟩
  obtain ⟨b, off, rfl, hbw, hc⟩ := hc h0
  have each : ∀ i, i < len → ∃ x : Int × Int, (U16 x.1 ∧ U16 x.2) ∧ ∀ j v, (pairC x)[j]? = some v → w.cell? ⟨b, off + i * 2 + j, none⟩ = some v := fun i hi => by
    obtain ⟨v0, y0, n0, d0, t0⟩ := hc i hi 0 _ rfl
    obtain ⟨v1, y1, n1, d1, t1⟩ := hc i hi 1 _ rfl
    obtain ⟨x0, a0, _, w0⟩ := DataW.trod_int Try.underlying29 t0
    obtain ⟨x1, a1, _, w1⟩ := DataW.trod_int Try.underlying29 t1
    simp only [List.cons.injEq, and_true] at a0 a1
    subst a0 a1
    refine ⟨(x0, x1), ⟨wf_u16 w0, wf_u16 w1⟩, fun j v hv => ?_⟩
    match j with
    | 0 => rw [← hv]; exact d0
    | 1 => rw [← hv]; exact d1
    | n + 2 => simp [pairC] at hv
  obtain ⟨V, hV⟩ := choose_lt each
  have hlen : ((List.range len).map V).length = len := by simp
  refine ⟨some ⟨b, off, none⟩, cap, (List.range len).map V, by rw [hlen], by rw [hlen]; exact hl, by rw [hlen]; exact hle, fun x hx => ?_, ?_⟩
  · obtain ⟨i, hi, rfl⟩ := List.mem_map.1 hx
    exact (hV i (List.mem_range.1 hi)).1
  · rw [hlen]
    refine ⟨hlen, fun _ => ⟨b, off, rfl, hbw, fun i x hx => ?_⟩⟩
    have hi : i < len := by
      have := (List.getElem?_eq_some_iff.1 hx).1
      rwa [hlen] at this
    rw [List.getElem?_map, List.getElem?_range hi] at hx
    obtain rfl : V i = x := Option.some.inj hx
    exact (hV i hi).2
theorem open_pairs {fuel : Nat} {u : Value} {y : DataW H × List MemPlace} (h : DataW.trod enc Try.prog w 0 (fun _ => true) held fuel 66 [u] = some y) (hsz : ∀ el sp, y.1 = .slice el sp → (el.length + sp.length) * Try.prog.bytesOf 108 ≤ reachBytes) :
    ∃ (a : Option Addr) (cap : Nat) (xs : List (Int × Int)), u = .slice a xs.length cap ∧ xs.length ≤ cap ∧ xs.length ≤ 140737488351232 ∧ (∀ x ∈ xs, U16 x.1 ∧ U16 x.2) ∧ RowRd pairL w w.heap.size a xs.length xs := by
  obtain ⟨a, cap, xs, h1, h2, h3, h4⟩ := open_pairsB h hsz
  exact ⟨a, cap, xs, h1, h2, by omega, h4⟩
/-- The same under the second form's bound. -/
theorem open_pairs_upto {fuel : Nat} {u : Value} {y : DataW H × List MemPlace} (h : DataW.trod enc Try.prog w 0 (fun _ => true) held fuel 66 [u] = some y) (hu : ∀ el sp, y.1 = .slice el sp → el.length + sp.length ≤ 1048576) :
    ∃ (a : Option Addr) (cap : Nat) (xs : List (Int × Int)), u = .slice a xs.length cap ∧ xs.length ≤ cap ∧ xs.length ≤ 140737488351232 ∧ (∀ x ∈ xs, U16 x.1 ∧ U16 x.2) ∧ RowRd pairL w w.heap.size a xs.length xs ∧ xs.length ≤ 1048576 := by
  obtain ⟨a, cap, xs, rfl, h1, h2, h3, h4⟩ := open_pairs h (fun el sp hy => by rw [bytesPair]; have := hu el sp hy; simp only [reachBytes]; omega)
  refine ⟨a, cap, xs, rfl, h1, h2, h3, h4, ?_⟩
  rcases open_slice Try.underlying66 h with ⟨hcs, _⟩ | ⟨a', len, cap', m, n, D, Pl, hcs, _, _, _, _, hy, _⟩
  · simp only [List.cons.injEq, Value.slice.injEq, and_true] at hcs
    omega
  · simp only [List.cons.injEq, Value.slice.injEq, and_true] at hcs
    have := hu _ _ (by rw [hy])
    simp only [List.length_map, List.length_range] at this
    omega
end
end Go.Proofs.Ythmmafpmpnhleaa.Fbk
