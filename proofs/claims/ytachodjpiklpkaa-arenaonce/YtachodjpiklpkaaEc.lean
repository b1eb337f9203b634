/- Rows of records, whichever type: x[:k], x[k:], without a way for each capacity; nil let in. No function of the program. -/
import Derived.Test.YtachodjpiklpkaaXs
import Derived.Laws.Slices
set_option maxRecDepth 100000
namespace Go.Proofs.Ytachodjpiklpkaa.Arn
open Go.RowKit
set_option linter.unusedVariables false

section
variable {P : Program} {t e : TypeId} {i0 : TypeInfo} {s : Nat}
/-- x[:k]. -/
theorem rec_to (ht : P.underlying t = some (.slice (P.elem t))) (he : P.elem t = e) (hi : P.info? e = some i0) (hs : i0.size = s) (a : Option Addr) (len cap k : Nat) (h : Int) (hk : h = k) (hc : k ≤ cap) (W : World) :
    (Instr.slice t (.slice a len cap) none (some (.int .i64 h)) none).run P W = .ok (.slice a k cap) W := by
  subst hk
  have q := run_slice_h (P := P) (w := W) (t := t) (a := a) (len := len) (cap := cap) (ht := ht) .i64 (k : Int) (by omega) (by omega)
  rw [q, he]
  have ha : a.map (·.add 0) = a := by cases a <;> simp [Addr.add]
  simp [sizeOf, typeInfo, hi, sliced, ha]
/-- x[k:]: one letter for its address. -/
theorem rec_from (ht : P.underlying t = some (.slice (P.elem t))) (he : P.elem t = e) (hi : P.info? e = some i0) (hs : i0.size = s) (a : Option Addr) (len cap k : Nat) (l : Int) (hl : l = k) (hk : k ≤ len) :
    ∃ X, (∀ b off, a = some ⟨b, off, none⟩ → cap ≠ k → X = some ⟨b, off + k * s, none⟩) ∧ ∀ W, (Instr.slice t (.slice a len cap) (some (.int .i64 l)) none none).run P W = .ok (.slice X (len - k) (cap - k)) W := by
  subst hl
  have q := fun W => run_slice_l (P := P) (w := W) (t := t) (a := a) (len := len) (cap := cap) (ht := ht) .i64 (k : Int) (by omega) (by omega)
  rcases a with _ | ad
  · refine ⟨none, (fun b off h => by cases h), fun W => ?_⟩
    rw [q, he]
    by_cases hc : cap = k
    · simp [sizeOf, typeInfo, hi, sliced, hc]
    · simp [sizeOf, typeInfo, hi, hs, sliced, hc]
  · refine ⟨if cap = k then some ad else some (ad.add (k * s)), fun b off h hne => ?_, fun W => ?_⟩
    · rw [if_neg hne]
      simp only [Option.some.injEq] at h
      rw [h, plain_add]
    · rw [q, he]
      by_cases hc : cap = k
      · simp [sizeOf, typeInfo, hi, sliced, hc]
      · simp [sizeOf, typeInfo, hi, hs, sliced, hc]
end
section
variable {α : Type} {L : Lay α} {w : World} {B n k : Nat} {a X : Option Addr} {xs : List α}
theorem row_take (h : RowRd L w B a n xs) (hk : k ≤ n) : RowRd L w B a k (xs.take k) := by
  refine ⟨by rw [List.length_take, h.1]; omega, fun hp => ?_⟩
  obtain ⟨b, off, e, hlt, hc⟩ := h.2 (by omega)
  refine ⟨b, off, e, hlt, fun i x hi j v hv => hc i x ?_ j v hv⟩
  rw [List.getElem?_take] at hi
  split at hi
  · exact hi
  · cases hi
theorem row_drop (h : RowRd L w B a n xs) (hk : k ≤ n) {c : Nat} (hc : n ≤ c) (hX : ∀ b off, a = some ⟨b, off, none⟩ → c ≠ k → X = some ⟨b, off + k * L.s, none⟩) : RowRd L w B X (n - k) (xs.drop k) := by
  refine ⟨by rw [List.length_drop, h.1], fun hp => ?_⟩
  obtain ⟨b, off, e, hlt, hq⟩ := h.2 (by omega)
  refine ⟨b, off + k * L.s, hX b off e (by omega), hlt, fun i x hi j v hv => ?_⟩
  rw [List.getElem?_drop] at hi
  have := hq (k + i) x hi j v hv
  rw [show off + (k + i) * L.s + j = off + k * L.s + i * L.s + j from by rw [Nat.add_mul]; omega] at this
  exact this
/-- The cells of the k-th record. -/
theorem row_at (h : RowRd L w B a n xs) (hk : k < n) : ∃ b off x, a = some ⟨b, off, none⟩ ∧ b < B ∧ xs[k]? = some x ∧ ∀ j v, (L.cel x)[j]? = some v → w.cell? ⟨b, off + k * L.s + j, none⟩ = some v := by
  obtain ⟨b, off, e, hlt, hq⟩ := h.2 (by omega)
  have hx := List.getElem?_eq_getElem (show k < xs.length from by rw [h.1]; exact hk)
  exact ⟨b, off, _, e, hlt, hx, fun j v hv => hq k _ hx j v hv⟩
end
theorem flat_set {α : Type} (L : Lay α) (T : List Value) : ∀ (qs : List α) (k j : Nat) (x y : α) (u : Value), qs[k]? = some x → j < L.s → (L.cel x).set j u = L.cel y → (flat L qs ++ T).set (k * L.s + j) u = flat L (qs.set k y) ++ T
  | [], k, j, x, y, u, h, _, _ => by simp at h
  | z :: r, 0, j, x, y, u, h, hj, hc => by
    simp only [List.getElem?_cons_zero, Option.some.injEq] at h
    subst h
    simp only [flat, List.flatMap_cons, List.set_cons_zero, List.append_assoc, Nat.zero_mul, Nat.zero_add]
    rw [List.set_append_left _ _ (by rw [L.len]; exact hj), hc]
  | z :: r, k + 1, j, x, y, u, h, hj, hc => by
    rw [List.getElem?_cons_succ] at h
    have ih := flat_set L T r k j x y u h hj hc
    simp only [flat, List.flatMap_cons, List.set_cons_succ, List.append_assoc] at ih ⊢
    rw [List.set_append_right _ _ (by rw [L.len, Nat.add_mul]; omega), L.len, show (k + 1) * L.s + j - L.s = k * L.s + j from by rw [Nat.add_mul]; omega, ih]
/-- A store into one cell of a row of the call's own. -/
theorem own_set {α : Type} {L : Lay α} {w : World} {base g n c k j : Nat} {xs : List α} {x y : α} (h : RowOwn L w base (some ⟨g, 0, none⟩) n c xs) (hx : xs[k]? = some x) (u : Value) (hj : j < L.s) (hc : (L.cel x).set j u = L.cel y) :
    RowOwn L (w.setCell ⟨g, k * L.s + j, none⟩ u) base (some ⟨g, 0, none⟩) n c (xs.set k y) ∧ (∀ i : Nat, i ≠ g → (w.setCell ⟨g, k * L.s + j, none⟩ u).heap[i]? = w.heap[i]?) ∧ Below g w (w.setCell ⟨g, k * L.s + j, none⟩ u) := by
  obtain ⟨h1, h2, h3, h4⟩ := h
  refine ⟨⟨by rw [List.length_set]; exact h1, h2, h3, ?_⟩, fun i hi => Below.heap_setCell w ⟨g, k * L.s + j, none⟩ u i hi, (Below.refl g w).setCell (p := ⟨g, k * L.s + j, none⟩) (Nat.le_refl _) u⟩
  rcases h4 with ⟨e, -⟩ | ⟨g', T, e, hg, hk, hl⟩
  · cases e
  · obtain rfl : g = g' := by simpa using e
    refine .inr ⟨g, T, rfl, hg, ?_, ?_⟩
    · have := heap_setCell_same w g (k * L.s + j) _ _ u hk
      rw [this, List.setIfInBounds_toArray]
      have hf := flat_set L T xs k j x y u hx hj hc
      rw [← hf]
    · rw [← hl, flat_len, flat_len, List.length_set]
/-- A row of the call's own that has one: its block, which is not frozen. -/
theorem own_blk {α : Type} {L : Lay α} {w : World} {base n c : Nat} {A : Option Addr} {xs : List α} (h : RowOwn L w base A n c xs) (hn : 0 < n) : ∃ g, A = some ⟨g, 0, none⟩ ∧ base ≤ g ∧ g < w.heap.size ∧ ∀ i, w.frozen? ⟨g, i, none⟩ = false := by
  rcases h.2.2.2 with ⟨-, e, -⟩ | ⟨g, T, rfl, hg, hk, -⟩
  · omega
  · exact ⟨g, rfl, hg, lt_of_some hk, fun i => frozen_of_row w g i _ _ hk⟩
end Go.Proofs.Ytachodjpiklpkaa.Arn
