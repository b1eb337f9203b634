/- Slots that are counted, plain: the least free one, what is live, how many are free; no handle is told twice. No function of the program. · Rows of records, whichever type: x[:k], x[k:], without a way for each capacity; nil let in. No function of the program. · Slots and handles as records; worlds that part in some blocks alone; the arena at its block; the contracts of arena.isFree and live. · copy of a row of records, whichever type, onto a row that lies whole at a block; the same block let in. No function of the program. · Append onto a row of the call's own: no block but the row's own is other behind it. No function of the program. -/
import Derived.Test.YtjiofhlmfmhhmaaRows
import Derived.Test.YtjiofhlmfmhhmaaXs
import Derived.Laws.Slices
import Derived.Test.YtjiofhlmfmhhmaaSeq
import Derived.Handy
import Derived.Laws.CopyRow
import Derived.Test.YtjiofhlmfmhhmaaXt
set_option maxRecDepth 100000
namespace Go.Proofs.Ytjiofhlmfmhhmaa.Arn
set_option linter.unusedVariables false

/-- A slot: its generation, its references. -/
abbrev Slt := Int × Int
def newL (n : Int) : List Slt := List.replicate (min (max n 1) 1024).toNat (1, 0)
/-- The free slot with the least number. -/
def leastF : List Slt → Option Nat
  | [] => none
  | x :: r => if x.2 = 0 then some 0 else (leastF r).map (· + 1)
def freeN : List Slt → Nat
  | [] => 0
  | x :: r => (if x.2 = 0 then 1 else 0) + freeN r
/-- Is the handle (s, g) live? -/
def liveB (L : List Slt) (s g : Int) : Bool := decide (0 ≤ s ∧ s < L.length) && decide (0 < (L.getD s.toNat (0, 0)).2) && decide ((L.getD s.toNat (0, 0)).1 = g)
def refsV (L : List Slt) (s g : Int) : Int := if liveB L s g then (L.getD s.toNat (0, 0)).2 else 0
def keepL (L : List Slt) (s g : Int) : List Slt := if liveB L s g then L.set s.toNat ((L.getD s.toNat (0, 0)).1, (L.getD s.toNat (0, 0)).2 + 1) else L
/-- One reference fewer; with none left the generation is one more, modulo 2^32. -/
def dropped (x : Slt) : Slt := if x.2 = 1 then ((x.1 + 1) % 4294967296, 0) else (x.1, x.2 - 1)
def dropL (L : List Slt) (s g : Int) : List Slt := if liveB L s g then L.set s.toNat (dropped (L.getD s.toNat (0, 0))) else L
def callE (L : List Slt) (s g : Int) : Int := if liveB L s g then 0 else 7

theorem leastF_some : ∀ {L : List Slt} {k : Nat}, leastF L = some k → ∃ g, L[k]? = some (g, 0) ∧ ∀ j x, j < k → L[j]? = some x → x.2 ≠ 0
  | [], k, h => by simp [leastF] at h
  | x :: r, k, h => by
    unfold leastF at h
    split at h
    · rename_i hx
      obtain rfl : 0 = k := by simpa using h
      exact ⟨x.1, by rw [List.getElem?_cons_zero, ← hx], fun j x hj => absurd hj (Nat.not_lt_zero j)⟩
    · rename_i hx
      obtain ⟨m, hm, rfl⟩ : ∃ m, leastF r = some m ∧ m + 1 = k := by simpa using h
      obtain ⟨g, h1, h2⟩ := leastF_some hm
      refine ⟨g, by rw [List.getElem?_cons_succ]; exact h1, fun j y hj hy => ?_⟩
      match j with
      | 0 => rw [List.getElem?_cons_zero] at hy; cases hy; exact hx
      | j + 1 => rw [List.getElem?_cons_succ] at hy; exact h2 j y (by omega) hy
theorem leastF_none : ∀ {L : List Slt}, leastF L = none → freeN L = 0 ∧ ∀ x ∈ L, x.2 ≠ 0
  | [], _ => ⟨rfl, fun x hx => by simp at hx⟩
  | x :: r, h => by
    unfold leastF at h
    split at h
    · cases h
    · rename_i hx
      obtain ⟨h1, h2⟩ := leastF_none (L := r) (by simpa using h)
      refine ⟨by rw [freeN, if_neg hx, h1], fun y hy => ?_⟩
      rcases List.mem_cons.1 hy with rfl | hy
      · exact hx
      · exact h2 y hy
theorem freeN_le : ∀ L : List Slt, freeN L ≤ L.length
  | [] => Nat.le_refl _
  | x :: r => by have := freeN_le r; rw [freeN, List.length_cons]; split <;> omega
theorem freeN_set : ∀ {L : List Slt} {k : Nat} {x : Slt} (y : Slt), L[k]? = some x → freeN (L.set k y) + (if x.2 = 0 then 1 else 0) = freeN L + (if y.2 = 0 then 1 else 0)
  | [], k, x, y, h => by simp at h
  | z :: r, 0, x, y, h => by
    rw [List.getElem?_cons_zero] at h
    cases h
    rw [List.set_cons_zero, freeN, freeN]; omega
  | z :: r, k + 1, x, y, h => by
    rw [List.getElem?_cons_succ] at h
    have := freeN_set (L := r) y h
    rw [List.set_cons_succ, freeN, freeN]; omega
theorem freeN_new (n : Nat) : freeN (List.replicate n (1, 0)) = n := by
  induction n with
  | zero => rfl
  | succ n ih => rw [List.replicate_succ, freeN, ih]; simp; omega
theorem newL_len (n : Int) : ((newL n).length : Int) = min (max n 1) 1024 := by rw [newL, List.length_replicate]; omega
theorem newL_free (n : Int) : freeN (newL n) = (newL n).length := by rw [newL, freeN_new, List.length_replicate]

/-- What is known of slots that are taken and dropped only: 'seen' was told, 'live' is held, once each. -/
structure Inv (L : List Slt) (seen live : List (Nat × Int)) (N : Int) : Prop where
  gen : ∀ (k : Nat) (x : Slt), L[k]? = some x → 1 ≤ x.1 ∧ x.1 ≤ N
  ref : ∀ (k : Nat) (x : Slt), L[k]? = some x → x.2 = 0 ∨ x.2 = 1
  told : ∀ h ∈ seen, ∃ x : Slt, L[h.1]? = some x ∧ (h.2 < x.1 ∨ h.2 = x.1 ∧ x.2 = 1)
  held : ∀ h ∈ live, L[h.1]? = some (h.2, 1)
  apart : (live.map Prod.fst).Nodup
  cnt : live.length + freeN L = L.length
theorem Inv.start (n : Int) : Inv (newL n) [] [] 1 := by
  have hx : ∀ (k : Nat) (x : Slt), (newL n)[k]? = some x → x = (1, 0) := fun k x h => by
    have := List.mem_of_getElem? h
    rw [newL, List.mem_replicate] at this
    exact this.2
  exact ⟨fun k x h => by rw [hx k x h]; decide, fun k x h => .inl (by rw [hx k x h]), fun h hh => by simp at hh, fun h hh => by simp at hh, List.nodup_nil, by rw [newL_free]; simp⟩
theorem set_get {L : List Slt} {k m : Nat} {x y z : Slt} (h : L[k]? = some x) (hm : (L.set k y)[m]? = some z) : (m = k ∧ z = y) ∨ (m ≠ k ∧ L[m]? = some z) := by
  rw [List.getElem?_set] at hm
  by_cases e : k = m
  · subst e
    have hk := (List.getElem?_eq_some_iff.1 h).1
    rw [if_pos rfl, if_pos hk] at hm
    exact .inl ⟨rfl, (Option.some.inj hm).symm⟩
  · rw [if_neg e] at hm
    exact .inr ⟨fun h => e h.symm, hm⟩
theorem set_at {L : List Slt} {k : Nat} {x y : Slt} (h : L[k]? = some x) : (L.set k y)[k]? = some y := by
  have hk := (List.getElem?_eq_some_iff.1 h).1
  rw [List.getElem?_set, if_pos rfl, if_pos hk]
theorem set_off {L : List Slt} {k m : Nat} {y : Slt} (h : k ≠ m) : (L.set k y)[m]? = L[m]? := by rw [List.getElem?_set, if_neg h]
/-- A slot is taken: its handle is new. -/
theorem Inv.take {L : List Slt} {seen live : List (Nat × Int)} {N g : Int} {k : Nat} (h : Inv L seen live N) (hk : L[k]? = some (g, 0)) : (k, g) ∉ seen ∧ Inv (L.set k (g, 1)) ((k, g) :: seen) (live ++ [(k, g)]) N := by
  have hne : ∀ x ∈ live, x.1 ≠ k := fun x hx e => by
    have := h.held x hx
    rw [e, hk] at this
    simp at this
  refine ⟨fun hs => ?_, ⟨fun m x hm => ?_, fun m x hm => ?_, fun x hx => ?_, fun x hx => ?_, ?_, ?_⟩⟩
  · obtain ⟨x, h1, h2⟩ := h.told _ hs
    rw [hk] at h1
    cases h1
    rcases h2 with h2 | ⟨-, h2⟩
    · exact absurd h2 (Int.lt_irrefl _)
    · simp at h2
  · rcases set_get hk hm with ⟨rfl, rfl⟩ | ⟨-, hm⟩
    · exact h.gen m (g, 0) hk
    · exact h.gen m x hm
  · rcases set_get hk hm with ⟨rfl, rfl⟩ | ⟨-, hm⟩
    · exact .inr rfl
    · exact h.ref m x hm
  · rcases List.mem_cons.1 hx with rfl | hx
    · exact ⟨_, set_at hk, .inr ⟨rfl, rfl⟩⟩
    · obtain ⟨y, h1, h2⟩ := h.told x hx
      by_cases e : k = x.1
      · subst e
        rw [hk] at h1
        cases h1
        refine ⟨_, set_at hk, ?_⟩
        rcases h2 with h2 | ⟨-, h2⟩
        · exact .inl h2
        · simp at h2
      · exact ⟨y, by rw [set_off e]; exact h1, h2⟩
  · rcases List.mem_append.1 hx with hx | hx
    · rw [set_off (fun e => hne x hx e.symm)]; exact h.held x hx
    · simp only [List.mem_cons, List.not_mem_nil, or_false] at hx
      subst hx
      exact set_at hk
  · rw [List.map_append, List.nodup_append]
    refine ⟨h.apart, by simp, fun a ha b hb => ?_⟩
    obtain ⟨x, hx, rfl⟩ := List.mem_map.1 ha
    simp only [List.map_cons, List.map_nil, List.mem_cons, List.not_mem_nil, or_false] at hb
    subst hb
    exact hne x hx
  · have := freeN_set (g, 1) hk
    have := h.cnt
    rw [List.length_append, List.length_set]
    simp at *
    omega
/-- One of those that are held is dropped. -/
theorem Inv.drop {L : List Slt} {seen live : List (Nat × Int)} {N g : Int} {k j : Nat} (h : Inv L seen live N) (hj : live[j]? = some (k, g)) : Inv (L.set k (g + 1, 0)) seen (live.eraseIdx j) (N + 1) := by
  have hm := List.mem_of_getElem? hj
  have hk := h.held _ hm
  have hjl := (List.getElem?_eq_some_iff.1 hj).1
  have hsub : ∀ x ∈ live.eraseIdx j, x ∈ live := fun x hx => List.mem_of_mem_eraseIdx hx
  have hne : ∀ x ∈ live.eraseIdx j, x.1 ≠ k := fun x hx e => by
    obtain ⟨m, hmj, hx'⟩ := List.mem_eraseIdx_iff_getElem?.1 hx
    have h1 : (live.map Prod.fst)[m]? = some k := by rw [List.getElem?_map, hx']; simp [e]
    have h2 : (live.map Prod.fst)[j]? = some k := by rw [List.getElem?_map, hj]; rfl
    have hml := (List.getElem?_eq_some_iff.1 h1).1
    exact hmj ((List.getElem?_inj hml h.apart).1 (h1.trans h2.symm))
  refine ⟨fun m x hx => ?_, fun m x hx => ?_, fun x hx => ?_, fun x hx => ?_, ?_, ?_⟩
  · rcases set_get hk hx with ⟨rfl, rfl⟩ | ⟨-, hx⟩
    · have := h.gen _ _ hk; exact ⟨by simp only at *; omega, by simp only at *; omega⟩
    · have := h.gen _ _ hx; exact ⟨this.1, by omega⟩
  · rcases set_get hk hx with ⟨rfl, rfl⟩ | ⟨-, hx⟩
    · exact .inl rfl
    · exact h.ref _ _ hx
  · obtain ⟨y, h1, h2⟩ := h.told x hx
    by_cases e : k = x.1
    · subst e
      rw [hk] at h1
      cases h1
      refine ⟨_, set_at hk, .inl ?_⟩
      simp only at *
      omega
    · exact ⟨y, by rw [set_off e]; exact h1, h2⟩
  · rw [set_off (fun e => hne x hx e.symm)]; exact h.held x (hsub x hx)
  · exact (List.Sublist.map _ (List.eraseIdx_sublist live j)).nodup h.apart
  · have := freeN_set (g + 1, 0) hk
    have := h.cnt
    rw [List.length_set, List.length_eraseIdx, if_pos hjl]
    simp at *
    omega
end Go.Proofs.Ytjiofhlmfmhhmaa.Arn

namespace Go.Proofs.Ytjiofhlmfmhhmaa.Arn
open Go.RowKit
set_option linter.unusedVariables false

section
variable {P : Program} {t e : TypeId} {i0 : TypeInfo} {s : Nat}
/-- x[:k]. -/
theorem rec_to (ht : P.underlying t = some (.slice (P.elem t))) (he : P.elem t = e) (hi : P.info? e = some i0) (hs : i0.size = s) (a : Option Addr) (len cap k : Nat) (h : Int) (hk : h = k) (hc : k ≤ cap) (W : World) :
    (Instr.slice t (.slice a len cap) none (some (.int .i64 h)) none).run P W = .ok (.slice a k cap) W := by
  subst hk
  have q := run_slice_h (P := P) (w := W) (t := t) (a := a) (len := len) (cap := cap) (ht := ht) .i64 (k : Int) (by omega) (by omega)
  rw [q, he]
  have ha : a.map (·.add 0) = a := by cases a <;> simp [Addr.add]
  simp [sizeOf, typeInfo, hi, sliced, ha]
/-- x[k:]: one letter for its address. -/
theorem rec_from (ht : P.underlying t = some (.slice (P.elem t))) (he : P.elem t = e) (hi : P.info? e = some i0) (hs : i0.size = s) (a : Option Addr) (len cap k : Nat) (l : Int) (hl : l = k) (hk : k ≤ len) :
    ∃ X, (∀ b off, a = some ⟨b, off, none⟩ → cap ≠ k → X = some ⟨b, off + k * s, none⟩) ∧ ∀ W, (Instr.slice t (.slice a len cap) (some (.int .i64 l)) none none).run P W = .ok (.slice X (len - k) (cap - k)) W := by
  subst hl
  have q := fun W => run_slice_l (P := P) (w := W) (t := t) (a := a) (len := len) (cap := cap) (ht := ht) .i64 (k : Int) (by omega) (by omega)
  rcases a with _ | ad
  · refine ⟨none, (fun b off h => by cases h), fun W => ?_⟩
    rw [q, he]
    by_cases hc : cap = k
    · simp [sizeOf, typeInfo, hi, sliced, hc]
    · simp [sizeOf, typeInfo, hi, hs, sliced, hc]
  · refine ⟨if cap = k then some ad else some (ad.add (k * s)), fun b off h hne => ?_, fun W => ?_⟩
    · rw [if_neg hne]
      simp only [Option.some.injEq] at h
      rw [h, plain_add]
    · rw [q, he]
      by_cases hc : cap = k
      · simp [sizeOf, typeInfo, hi, sliced, hc]
      · simp [sizeOf, typeInfo, hi, hs, sliced, hc]
end
section
variable {α : Type} {L : Lay α} {w : World} {B n k : Nat} {a X : Option Addr} {xs : List α}
theorem row_take (h : RowRd L w B a n xs) (hk : k ≤ n) : RowRd L w B a k (xs.take k) := by
  refine ⟨by rw [List.length_take, h.1]; omega, fun hp => ?_⟩
  obtain ⟨b, off, e, hlt, hc⟩ := h.2 (by omega)
  refine ⟨b, off, e, hlt, fun i x hi j v hv => hc i x ?_ j v hv⟩
  rw [List.getElem?_take] at hi
  split at hi
  · exact hi
  · cases hi
theorem row_drop (h : RowRd L w B a n xs) (hk : k ≤ n) {c : Nat} (hc : n ≤ c) (hX : ∀ b off, a = some ⟨b, off, none⟩ → c ≠ k → X = some ⟨b, off + k * L.s, none⟩) : RowRd L w B X (n - k) (xs.drop k) := by
  refine ⟨by rw [List.length_drop, h.1], fun hp => ?_⟩
  obtain ⟨b, off, e, hlt, hq⟩ := h.2 (by omega)
  refine ⟨b, off + k * L.s, hX b off e (by omega), hlt, fun i x hi j v hv => ?_⟩
  rw [List.getElem?_drop] at hi
  have := hq (k + i) x hi j v hv
  rw [show off + (k + i) * L.s + j = off + k * L.s + i * L.s + j from by rw [Nat.add_mul]; omega] at this
  exact this
/-- The cells of the k-th record. -/
theorem row_at (h : RowRd L w B a n xs) (hk : k < n) : ∃ b off x, a = some ⟨b, off, none⟩ ∧ b < B ∧ xs[k]? = some x ∧ ∀ j v, (L.cel x)[j]? = some v → w.cell? ⟨b, off + k * L.s + j, none⟩ = some v := by
  obtain ⟨b, off, e, hlt, hq⟩ := h.2 (by omega)
  have hx := List.getElem?_eq_getElem (show k < xs.length from by rw [h.1]; exact hk)
  exact ⟨b, off, _, e, hlt, hx, fun j v hv => hq k _ hx j v hv⟩
end
theorem flat_set {α : Type} (L : Lay α) (T : List Value) : ∀ (qs : List α) (k j : Nat) (x y : α) (u : Value), qs[k]? = some x → j < L.s → (L.cel x).set j u = L.cel y → (flat L qs ++ T).set (k * L.s + j) u = flat L (qs.set k y) ++ T
  | [], k, j, x, y, u, h, _, _ => by simp at h
  | z :: r, 0, j, x, y, u, h, hj, hc => by
    simp only [List.getElem?_cons_zero, Option.some.injEq] at h
    subst h
    simp only [flat, List.flatMap_cons, List.set_cons_zero, List.append_assoc, Nat.zero_mul, Nat.zero_add]
    rw [List.set_append_left _ _ (by rw [L.len]; exact hj), hc]
  | z :: r, k + 1, j, x, y, u, h, hj, hc => by
    rw [List.getElem?_cons_succ] at h
    have ih := flat_set L T r k j x y u h hj hc
    simp only [flat, List.flatMap_cons, List.set_cons_succ, List.append_assoc] at ih ⊢
    rw [List.set_append_right _ _ (by rw [L.len, Nat.add_mul]; omega), L.len, show (k + 1) * L.s + j - L.s = k * L.s + j from by rw [Nat.add_mul]; omega, ih]
/-- A store into one cell of a row of the call's own. -/
theorem own_set {α : Type} {L : Lay α} {w : World} {base g n c k j : Nat} {xs : List α} {x y : α} (h : RowOwn L w base (some ⟨g, 0, none⟩) n c xs) (hx : xs[k]? = some x) (u : Value) (hj : j < L.s) (hc : (L.cel x).set j u = L.cel y) :
    RowOwn L (w.setCell ⟨g, k * L.s + j, none⟩ u) base (some ⟨g, 0, none⟩) n c (xs.set k y) ∧ (∀ i : Nat, i ≠ g → (w.setCell ⟨g, k * L.s + j, none⟩ u).heap[i]? = w.heap[i]?) ∧ Below g w (w.setCell ⟨g, k * L.s + j, none⟩ u) := by
  obtain ⟨h1, h2, h3, h4⟩ := h
  refine ⟨⟨by rw [List.length_set]; exact h1, h2, h3, ?_⟩, fun i hi => Below.heap_setCell w ⟨g, k * L.s + j, none⟩ u i hi, (Below.refl g w).setCell (p := ⟨g, k * L.s + j, none⟩) (Nat.le_refl _) u⟩
  rcases h4 with ⟨e, -⟩ | ⟨g', T, e, hg, hk, hl⟩
  · cases e
  · obtain rfl : g = g' := by simpa using e
    refine .inr ⟨g, T, rfl, hg, ?_, ?_⟩
    · have := heap_setCell_same w g (k * L.s + j) _ _ u hk
      rw [this, List.setIfInBounds_toArray]
      have hf := flat_set L T xs k j x y u hx hj hc
      rw [← hf]
    · rw [← hl, flat_len, flat_len, List.length_set]
/-- A row of the call's own that has one: its block, which is not frozen. -/
theorem own_blk {α : Type} {L : Lay α} {w : World} {base n c : Nat} {A : Option Addr} {xs : List α} (h : RowOwn L w base A n c xs) (hn : 0 < n) : ∃ g, A = some ⟨g, 0, none⟩ ∧ base ≤ g ∧ g < w.heap.size ∧ ∀ i, w.frozen? ⟨g, i, none⟩ = false := by
  rcases h.2.2.2 with ⟨-, e, -⟩ | ⟨g, T, rfl, hg, hk, -⟩
  · omega
  · exact ⟨g, rfl, hg, lt_of_some hk, fun i => frozen_of_row w g i _ _ hk⟩
end Go.Proofs.Ytjiofhlmfmhhmaa.Arn

namespace Go.Proofs.Ytjiofhlmfmhhmaa.Arn
open Go.RowKit
set_option linter.unusedVariables false

/-- Worlds that are alike but in the blocks S, and in new ones. -/
def Upd (S : Nat → Prop) (w w' : World) : Prop := Below 0 w w' ∧ ∀ k, k < w.heap.size → ¬ S k → w'.heap[k]? = w.heap[k]?
section
variable {S T : Nat → Prop} {w w1 w2 : World} {B : Nat}
theorem Upd.refl (S : Nat → Prop) (w : World) : Upd S w w := ⟨Below.refl _ _, fun _ _ _ => rfl⟩
theorem Upd.size (h : Upd S w w1) : w.heap.size ≤ w1.heap.size := h.1.size
theorem Upd.trans (h : Upd S w w1) (k : Upd S w1 w2) : Upd S w w2 := ⟨h.1.trans k.1, fun i hi hS => (k.2 i (Nat.lt_of_lt_of_le hi h.size) hS).trans (h.2 i hi hS)⟩
theorem Upd.mono (h : Upd S w w1) (hS : ∀ k, S k → T k) : Upd T w w1 := ⟨h.1, fun i hi hT => h.2 i hi fun hs => hT (hS i hs)⟩
theorem Upd.of (h : Below w.heap.size w w1) : Upd S w w1 := ⟨h.mono (Nat.zero_le _), fun i hi _ => h.block i hi⟩
theorem Upd.of_le (h : Below B w w1) (hB : w.heap.size ≤ B) : Upd S w w1 := Upd.of (h.mono hB)
theorem Upd.below (h : Upd S w w1) (hB : B ≤ w.heap.size) (hS : ∀ k, S k → B ≤ k) : Below B w w1 := ⟨h.1.os, h.1.tape, h.1.output, h.1.size, fun i hi => h.2 i (Nat.lt_of_lt_of_le hi hB) fun hs => Nat.not_lt.2 (hS i hs) hi⟩
theorem Upd.drew (h : Upd S w w1) : Upd S w w1.drew := ⟨h.1.drew, h.2⟩
theorem Upd.alloc (h : Upd S w w1) (o : Obj) : Upd S w (w1.alloc o) := h.trans (.of ((Below.refl _ _).alloc (Nat.le_refl _) o))
theorem Upd.setCell (h : Upd S w w1) {b i : Nat} (hb : S b ∨ w.heap.size ≤ b) (u : Value) : Upd S w (w1.setCell ⟨b, i, none⟩ u) :=
  ⟨h.1.setCell (p := ⟨b, i, none⟩) (Nat.zero_le _) u, fun k hk hS => (Below.heap_setCell w1 ⟨b, i, none⟩ u k (by
    rintro rfl
    rcases hb with hb | hb
    · exact hS hb
    · exact absurd hk (Nat.not_lt.2 hb))).trans (h.2 k hk hS)⟩
theorem Upd.keep (h : Upd S w w1) {k : Nat} {o : Obj} (ho : w.heap[k]? = some o) (hS : ¬ S k) : w1.heap[k]? = some o := (h.2 k (lt_of_some ho) hS).trans ho
end

def hndL : Lay (Int × Int) := ⟨30, 2, fun x => [.int .i64 x.1, .int .u32 x.2], fun _ => rfl, fun x v hv => by
  simp only [List.mem_cons, List.not_mem_nil, or_false] at hv
  rcases hv with rfl | rfl <;> rfl, by decide⟩
theorem info_hnd : (Try.prog.info? 30).map (fun i => (i.zero, i.size, i.bytes)) = some (some (.agg #[.int .i64 0, .int .u32 0]), 2, 16) := by kernel_rfl

abbrev hnV (s g : Int) : Value := .agg #[.int .i64 s, .int .u32 g]
abbrev slV (x : Slt) : Value := .agg #[.int .u32 x.1, .int .i64 x.2]
abbrev hnO (s g : Int) : Obj := .cells #[.int .i64 s, .int .u32 g] 30 (0, 0)
/-- Each slot may be: its numbers fit, there are so many references at most. -/
def OkS (M : Int) (L : List Slt) : Prop := ∀ x ∈ L, (0 ≤ x.1 ∧ x.1 < 4294967296) ∧ 0 ≤ x.2 ∧ x.2 ≤ M
theorem OkS.at_ {M : Int} {L : List Slt} {k : Nat} {x : Slt} (h : OkS M L) (hk : L[k]? = some x) : (0 ≤ x.1 ∧ x.1 < 4294967296) ∧ 0 ≤ x.2 ∧ x.2 ≤ M := h x (List.mem_of_getElem? hk)
end Go.Proofs.Ytjiofhlmfmhhmaa.Arn

namespace Go.Proofs.Ytjiofhlmfmhhmaa.Arn
open Go.RowKit
set_option linter.unusedVariables false

section
variable {α : Type} (L : Lay α)
theorem flat_nil : flat L ([] : List α) = [] := rfl
theorem flat_cons (x : α) (r : List α) : flat L (x :: r) = L.cel x ++ flat L r := by simp [flat]
theorem flat_take : ∀ (xs : List α) (k : Nat), (flat L xs).take (k * L.s) = flat L (xs.take k)
  | [], k => by simp [flat]
  | x :: r, 0 => by simp [flat]
  | x :: r, k + 1 => by
    rw [flat_cons, List.take_succ_cons, flat_cons, Nat.add_mul, Nat.one_mul, Nat.add_comm, List.take_append, L.len, List.take_of_length_le (by rw [L.len]; omega), Nat.add_sub_cancel_left, flat_take r k]
theorem flat_drop : ∀ (xs : List α) (k : Nat), (flat L xs).drop (k * L.s) = flat L (xs.drop k)
  | [], k => by simp [flat]
  | x :: r, 0 => by simp [flat]
  | x :: r, k + 1 => by
    rw [flat_cons, List.drop_succ_cons, Nat.add_mul, Nat.one_mul, Nat.add_comm, List.drop_append, L.len, List.drop_of_length_le (by rw [L.len]; omega), Nat.add_sub_cancel_left, flat_drop r k, List.nil_append]
end
/-- copy, whatever the element's size: all is read ahead of what is written. -/
theorem run_copy_recs {P : Program} (w : World) (dT sT ty elem : TypeId) (g o dLen dCap : Nat) (a : Addr) (sLen sCap s : Nat) (cur : Array Value) (t : TypeId) (cs : List Value)
    (hu : P.underlying dT = some (.slice elem)) (hs : (P.info? elem).map (·.size) = some s)
    (hg : w.heap[g]? = some (.cells cur t (0, 0))) (hn : cs.length = Nat.min sLen dLen * s)
    (hsrc : ∀ j v, cs[j]? = some v → w.cell? (a.add j) = some v) (hfit : o + cs.length ≤ cur.size) (h1 : ∀ v ∈ cs, v.oneCell' = true) :
    (Builtin.copy_ #[dT, sT] ty #[.slice (some ⟨g, o, none⟩) dLen dCap, .slice (some a) sLen sCap]).run P w =
      .ok (goInt (Nat.min sLen dLen)) (w.setRow g (cur.toList.take o ++ cs ++ cur.toList.drop (o + cs.length)).toArray) := by
  have hl := run_loadCells_list (P := P) w a cs hsrc
  have hst := run_storeCells_at P g o t cs 0 cur w hg (by simpa using hfit) h1
  cases hq : P.info? elem with
  | none => simp [hq] at hs
  | some i =>
    have hi : i.size = s := by simpa [hq] using hs
    simp [Builtin.copy_, run_underlying hu, Builtin.lenOf, Builtin.firstCells, sizeOf, typeInfo, hq, hi, ← hn, hl, hst]
section
variable {α : Type} {L : Lay α} {w : World} {g k n dc sl sc B : Nat} {a : Option Addr} {xs ys : List α}
/-- A row that lies whole at a block. -/
def Whole (L : Lay α) (w : World) (g : Nat) (xs : List α) : Prop := w.heap[g]? = some (.cells (flat L xs).toArray L.e (0, 0))
/-- copy(row[k:], ys): as many as there are in both. -/
theorem copy_recs {P : Program} {dT ty : TypeId} (hu : P.underlying dT = some (.slice L.e)) (hs : (P.info? L.e).map (·.size) = some L.s) (hg : Whole L w g xs) (hr : RowRd L w B a sl ys) (hm : 0 < Nat.min sl n) (hfit : k + n ≤ xs.length) :
    ∃ w', (Builtin.copy_ #[dT, dT] ty #[.slice (some ⟨g, k * L.s, none⟩) n dc, .slice a sl sc]).run P w = .ok (goInt (Nat.min sl n)) w' ∧ Whole L w' g (xs.take k ++ ys.take (Nat.min sl n) ++ xs.drop (k + Nat.min sl n)) ∧ Upd (· = g) w w' := by
  obtain ⟨m, hmm⟩ : ∃ m, Nat.min sl n = m := ⟨_, rfl⟩
  have h1 : m ≤ sl := hmm ▸ Nat.min_le_left _ _
  have h2 : m ≤ n := hmm ▸ Nat.min_le_right _ _
  obtain ⟨b, off, rfl, hlt, hc⟩ := hr.2 (by omega)
  have hlen : (flat L (ys.take m)).length = m * L.s := by rw [flat_len, List.length_take, hr.1, Nat.min_eq_left h1]
  have hf2 : k * L.s + m * L.s ≤ (flat L xs).length := by rw [flat_len, ← Nat.add_mul]; exact Nat.mul_le_mul_right _ (by omega)
  have hrun := run_copy_recs (P := P) w dT dT ty L.e g (k * L.s) n dc ⟨b, off, none⟩ sl sc L.s _ L.e (flat L (ys.take m)) hu hs hg (by rw [hlen, hmm]) (fun j v hv => by
    have hj : j < m * L.s := by have := (List.getElem?_eq_some_iff.1 hv).1; rwa [hlen] at this
    have hdm := Nat.div_add_mod j L.s
    have hq : j / L.s < m := Nat.div_lt_of_lt_mul (by rw [Nat.mul_comm]; exact hj)
    have hr' : j % L.s < L.s := Nat.mod_lt _ L.pos
    obtain ⟨y, hy⟩ : ∃ y, ys[j / L.s]? = some y := ⟨_, List.getElem?_eq_getElem (show j / L.s < ys.length by rw [hr.1]; omega)⟩
    have hy' : (ys.take m)[j / L.s]? = some y := by rw [List.getElem?_take, if_pos hq]; exact hy
    obtain ⟨u, hv'⟩ : ∃ u, (L.cel y)[j % L.s]? = some u := ⟨_, List.getElem?_eq_getElem (show j % L.s < (L.cel y).length by rw [L.len]; exact hr')⟩
    have hg := flat_get L (ys.take m) (j / L.s) (j % L.s) _ _ hy' hv'
    have he : j / L.s * L.s + j % L.s = j := by rw [Nat.mul_comm]; exact hdm
    rw [he, hv] at hg
    rw [plain_add, show off + j = off + j / L.s * L.s + j % L.s from by omega, hc _ _ hy _ _ hv', hg]) (by rw [hlen, List.size_toArray]; exact hf2) (flat_one L _)
  rw [hmm] at hrun ⊢
  refine ⟨_, hrun, ?_, ⟨⟨rfl, rfl, rfl, by simp, fun i hi => absurd hi (Nat.not_lt_zero i)⟩, fun i _ hi => setRow_other w g i _ hi⟩⟩
  unfold Whole
  rw [setRow_heap w g _ _ _ _ hg, hlen, ← Nat.add_mul]
  simp only
  rw [flat_take, flat_drop, flat_append, flat_append]
end
end Go.Proofs.Ytjiofhlmfmhhmaa.Arn

namespace Go.Proofs.Ytjiofhlmfmhhmaa.Arn
open Go.RowKit
set_option linter.unusedVariables false

section
variable {α : Type} {L : Lay α} {w : World} {B base n c : Nat} {a A : Option Addr} {xs ys : List α}
theorem append_rows_upd {P : Program} {t ty : TypeId} {i0 : TypeInfo} {z : Value} {bytes m k : Nat} (ht : P.underlying t = some (.slice L.e)) (hi : P.info? L.e = some i0) (hz : i0.zero = some z) (hs : i0.size = L.s) (hby : i0.bytes = bytes) (hzs : z.cells.size = L.s)
    (ho : RowOwn L w base A n c xs) (hr : RowRd L w B a m ys) (hb : base ≤ w.heap.size) (h63 : n + m ≤ maxLen) (hbytes : (n + m) * bytes ≤ 140737488355328) :
    ∃ A' c' w', (Builtin.append_ #[t, t] ty #[.slice A n c, .slice a m k]).run P w = .ok (.slice A' (n + m) c') w' ∧ RowOwn L w' base A' (n + m) c' (xs ++ ys) ∧ Upd (fun k => A = some ⟨k, 0, none⟩) w w' ∧ (∀ k, A' = some ⟨k, 0, none⟩ → A = some ⟨k, 0, none⟩ ∨ k = w.heap.size) := by
  rcases Nat.eq_zero_or_pos m with h0 | h0
  · subst h0
    obtain rfl : ys = [] := List.eq_nil_of_length_eq_zero hr.1
    refine ⟨A, c, w, ?_, by simpa using ho, Upd.refl _ _, fun k hk => .inl hk⟩
    rcases a with _ | ad
    · rcases ho.2.2.2 with ⟨rfl, rfl, rfl⟩ | ⟨g, T, rfl, hbg, hk, hl⟩
      · simp [Builtin.append_, run_underlying ht, sizeOf, typeInfo, hi, Builtin.lenOf, Builtin.firstCells]
      · simp [Builtin.append_, run_underlying ht, sizeOf, typeInfo, hi, Builtin.lenOf, Builtin.firstCells, ho.2.1, storeCells]
    · rcases ho.2.2.2 with ⟨rfl, rfl, rfl⟩ | ⟨g, T, rfl, hbg, hk, hl⟩
      · simp [Builtin.append_, run_underlying ht, sizeOf, typeInfo, hi, Builtin.lenOf, Builtin.firstCells, loadCells, loadCellsFrom]
      · simp [Builtin.append_, run_underlying ht, sizeOf, typeInfo, hi, Builtin.lenOf, Builtin.firstCells, ho.2.1, storeCells, loadCells, loadCellsFrom]
  · obtain ⟨b, off, rfl, _⟩ := hr.2 h0
    have hrow := ho.row
    have hlt := hrow.lt
    obtain ⟨v', w', hrun, h2, h3, _, h5⟩ := run_append_own_at (P := P) w base t ty L.e i0 z L.s bytes ht hi hz hs hby hzs L.pos _ n _ hrow ⟨b, off, none⟩ m k (flat L ys)
      (by rw [flat_len, hr.1]) (fun j u hu => by
        have hj := (List.getElem?_eq_some_iff.1 hu).1
        rw [flat_len, hr.1] at hj
        obtain ⟨b', off', e, _, hc⟩ := hr.2 h0
        simp only [Option.some.injEq, Addr.mk.injEq, and_true] at e
        obtain ⟨rfl, rfl⟩ := e
        have hdm := Nat.div_add_mod j L.s
        have hq : j / L.s < ys.length := by rw [hr.1]; exact Nat.div_lt_of_lt_mul (by rw [Nat.mul_comm]; exact hj)
        have hr' : j % L.s < (L.cel ys[j / L.s]).length := by rw [L.len]; exact Nat.mod_lt _ L.pos
        have hg := flat_get L ys (j / L.s) (j % L.s) _ _ (List.getElem?_eq_getElem hq) (List.getElem?_eq_getElem hr')
        have he : j / L.s * L.s + j % L.s = j := by rw [Nat.mul_comm]; exact hdm
        rw [he, hu] at hg
        rw [plain_add, show off + j = off + j / L.s * L.s + j % L.s from by omega, hc _ _ (List.getElem?_eq_getElem hq) _ _ (List.getElem?_eq_getElem hr'), hg]) (flat_one L ys) h63 hbytes hb
    rw [flat_append] at h2
    obtain ⟨A', c', rfl, ho'⟩ := rowOwn_of h2
    have hbel : Below base w w' := (Below.refl _ _).grown h3 hb (fun q hq => (hlt q hq).1)
    refine ⟨A', c', w', hrun, ho', ⟨hbel.mono (Nat.zero_le _), fun q hq hn => h3.block q hq ?_⟩, fun q hq => ?_⟩
    rotate_left
    · subst hq
      rcases h5 with h5 | h5
      · rcases ho.2.2.2 with ⟨rfl, -, -⟩ | ⟨g, T, rfl, -⟩
        · simp [Value.ownBlock] at h5
        · simp only [Value.ownBlock, Option.some.injEq] at h5
          exact .inl (by rw [h5])
      · simp only [Value.ownBlock, Option.some.injEq] at h5
        exact .inr h5
    intro heq
    rcases ho.2.2.2 with ⟨rfl, rfl, rfl⟩ | ⟨g, T, rfl, hbg, hk, hl⟩
    · simp [Value.ownBlock] at heq
    · simp only [Value.ownBlock, Option.some.injEq] at heq
      exact hn (by rw [heq])
/-- The same as a step of the walk: behind the guard 'at_builtin'. -/
theorem wpList_append_upd {P : Program} {ops : Array Oper} {rest : List Oper} {o : Oper} {act : Act} {Q : Exit → Act → World → Prop} {t : TypeId} {i0 : TypeInfo} {z : Value} {bytes m k N : Nat} (hgd : Region.wanted o (yielded ops act.tmps) = true) (s x : Operand)
    (hop : o.op = .call { callee := .builtin .append, args := #[s, x], argTypes := #[t, t] }) (ht : P.underlying t = some (.slice L.e)) (hi : P.info? L.e = some i0) (hz : i0.zero = some z) (hsz : i0.size = L.s) (hby : i0.bytes = bytes) (hzs : z.cells.size = L.s)
    (zs : List α) (hN : n + m = N) (hzz : xs ++ ys = zs) (hs : act.eval s = .slice A n c) (hx : act.eval x = .slice a m k)
    (ho : RowOwn L w base A n c xs) (hr : RowRd L w B a m ys) (hb : base ≤ w.heap.size) (h63 : n + m ≤ maxLen) (hbytes : (n + m) * bytes ≤ 140737488355328)
    (h : ∀ A' c' w', RowOwn L w' base A' N c' zs → Upd (fun k => A = some ⟨k, 0, none⟩) w w' → (∀ k, A' = some ⟨k, 0, none⟩ → A = some ⟨k, 0, none⟩ ∨ k = w.heap.size) → wpList P ops Q rest (act.put o.dst (.slice A' N c')) w') : wpList P ops Q (o :: rest) act w := by
  subst hN
  subst hzz
  refine wpList_step fun K hK => ?_
  rw [if_pos hgd]
  obtain ⟨A', c', w', hrun, ho', hb', hd'⟩ := append_rows_upd (k := k) (ty := o.type) ht hi hz hsz hby hzs ho hr hb h63 hbytes
  unfold Oper.wp execOp
  simp only [hop, resolve, invoke, builtin, Sem.run_bind, Sem.run_pure, Result.andThen_ok, List.map_toArray, List.map_cons, List.map_nil, hs, hx, hrun]
  exact hK _ _ (h A' c' w' ho' hb' hd')
/-- The same as an operation on its own (in a region that draws its order). -/
theorem oper_append_upd {P : Program} {o : Oper} {act : Act} {K : Act → World → Prop} {Q : Exit → Act → World → Prop} {t : TypeId} {i0 : TypeInfo} {z : Value} {bytes m k N : Nat} (s x : Operand)
    (hop : o.op = .call { callee := .builtin .append, args := #[s, x], argTypes := #[t, t] }) (ht : P.underlying t = some (.slice L.e)) (hi : P.info? L.e = some i0) (hz : i0.zero = some z) (hsz : i0.size = L.s) (hby : i0.bytes = bytes) (hzs : z.cells.size = L.s)
    (zs : List α) (hN : n + m = N) (hzz : xs ++ ys = zs) (hs : act.eval s = .slice A n c) (hx : act.eval x = .slice a m k)
    (ho : RowOwn L w base A n c xs) (hr : RowRd L w B a m ys) (hb : base ≤ w.heap.size) (h63 : n + m ≤ maxLen) (hbytes : (n + m) * bytes ≤ 140737488355328)
    (h : ∀ A' c' w', RowOwn L w' base A' N c' zs → Upd (fun k => A = some ⟨k, 0, none⟩) w w' → (∀ k, A' = some ⟨k, 0, none⟩ → A = some ⟨k, 0, none⟩ ∨ k = w.heap.size) → K (act.put o.dst (.slice A' N c')) w') : Oper.wp P o act w K Q := by
  subst hN
  subst hzz
  obtain ⟨A', c', w', hrun, ho', hb', hd'⟩ := append_rows_upd (k := k) (ty := o.type) ht hi hz hsz hby hzs ho hr hb h63 hbytes
  unfold Oper.wp execOp
  simp only [hop, resolve, invoke, builtin, Sem.run_bind, Sem.run_pure, Result.andThen_ok, List.map_toArray, List.map_cons, List.map_nil, hs, hx, hrun]
  exact h A' c' w' ho' hb' hd'
/-- A row whose block is none of those that are other. -/
theorem _root_.Go.Proofs.Ytjiofhlmfmhhmaa.RowOwn.upd {S : Nat → Prop} {w' : World} (h : RowOwn L w base A n c xs) (hu : Upd S w w') (hS : ∀ k, A = some ⟨k, 0, none⟩ → ¬ S k) : RowOwn L w' base A n c xs :=
  h.keep fun g hg hlt => hu.2 g hlt (hS g hg)
/-- Blocks of another type are not the row's. -/
theorem _root_.Go.Proofs.Ytjiofhlmfmhhmaa.RowOwn.not_at {g : Nat} {cs : Array Value} {t : TypeId} {fz : Nat × Nat} (h : RowOwn L w base A n c xs) (hg : w.heap[g]? = some (.cells cs t fz)) (ht : L.e ≠ t) : A ≠ some ⟨g, 0, none⟩ := by
  rintro rfl
  rcases h.2.2.2 with ⟨e, -⟩ | ⟨g', T, e, hbg, hk, hl⟩
  · cases e
  · obtain rfl : g = g' := by simpa using e
    rw [hg] at hk
    simp only [Option.some.injEq, Obj.cells.injEq] at hk
    exact ht hk.2.1.symm
theorem _root_.Go.Proofs.Ytjiofhlmfmhhmaa.RowOwn.lt_at {g : Nat} (h : RowOwn L w base A n c xs) (hg : A = some ⟨g, 0, none⟩) : base ≤ g ∧ g < w.heap.size := by
  subst hg
  rcases h.2.2.2 with ⟨e, -⟩ | ⟨g', T, e, hbg, hk, hl⟩
  · cases e
  · obtain rfl : g = g' := by simpa using e
    exact ⟨hbg, lt_of_some hk⟩
theorem _root_.Go.Proofs.Ytjiofhlmfmhhmaa.RowRd.upd {S : Nat → Prop} {w' : World} (h : RowRd L w B a n xs) (hu : Upd S w w') (hB : B ≤ w.heap.size) (hS : ∀ k, k < B → ¬ S k) : RowRd L w' B a n xs :=
  h.below (w := w) (w' := w') (B := B) ⟨hu.1.os, hu.1.tape, hu.1.output, hu.1.size, fun i hi => hu.2 i (Nat.lt_of_lt_of_le hi hB) (hS i hi)⟩
end
theorem eq_hnd (s g s' g' : Int) (W : World) : (binOp .eql 30 (hnV s g) (hnV s' g')).run Try.prog W = .ok (.bool (s == s' && g == g')) W := by
  by_cases h : s = s'
  · subst h
    by_cases h2 : g = g'
    · subst h2; simp [go_sem]
    · simp [go_sem, h2]
  · simp [go_sem, h]
theorem neq_hnd (s g s' g' : Int) (W : World) : (binOp .neq 30 (hnV s g) (hnV s' g')).run Try.prog W = .ok (.bool (!(s == s' && g == g'))) W := by
  by_cases h : s = s'
  · subst h
    by_cases h2 : g = g'
    · subst h2; simp [go_sem]
    · simp [go_sem, h2]
  · simp [go_sem, h]
theorem one_rec {α : Type} (L : Lay α) (w : World) (x : α) : RowRd L (w.alloc (.cells (L.cel x).toArray L.e (0, 0))) (w.heap.size + 1) (some ⟨w.heap.size, 0, none⟩) 1 [x] := by
  have := rowRd_blk (L := L) (w := w.alloc (.cells (L.cel x).toArray L.e (0, 0))) (g := w.heap.size) (xs := [x]) (n := 1) (by rw [show flat L [x] = L.cel x from by simp [flat]]; exact heap_alloc_new w _) rfl
  simpa using this
/-- The low bits of a number of 64 bits, below 0 too. -/
theorem i64_mask (x : Int) (i : Nat) (hi : i ≤ 62) : bits BinOp.and IntKind.i64 x (2 ^ i - 1) = x % 2 ^ i := by
  have hpos : 0 < 2 ^ i := Nat.two_pow_pos i
  have hi2 : 2 ^ i ≤ 2 ^ 62 := Nat.pow_le_pow_right (by decide) hi
  have hc : ((2 : Int) ^ i - 1) = ((2 ^ i - 1 : Nat) : Int) := by rw [Int.natCast_sub hpos]; simp
  have hb : (2 ^ i - 1) % 2 ^ IntKind.i64.bits = 2 ^ i - 1 := Nat.mod_eq_of_lt (show 2 ^ i - 1 < 2 ^ 64 from by omega)
  have hm : (2 : Int) ^ i = ((2 ^ i : Nat) : Int) := by simp
  simp only [bits, hc, BitVec.ofInt_natCast, BitVec.toNat_and, BitVec.toNat_ofNat, BitVec.toNat_ofInt, hb]
  rw [Nat.and_two_pow_sub_one_eq_mod]
  have hd : ((2 ^ i : Nat) : Int) ∣ ((2 ^ 64 : Nat) : Int) := Int.natCast_dvd_natCast.2 (Nat.pow_dvd_pow 2 (by omega))
  have h1 : (((x % ((2 ^ IntKind.i64.bits : Nat) : Int)).toNat % 2 ^ i : Nat) : Int) = x % 2 ^ i := by
    show (((x % ((2 ^ 64 : Nat) : Int)).toNat % 2 ^ i : Nat) : Int) = x % 2 ^ i
    rw [Int.natCast_emod, Int.toNat_of_nonneg (Int.emod_nonneg _ (by decide)), Int.emod_emod_of_dvd _ hd, hm]
  rw [h1]
  have h2 : 0 ≤ x % 2 ^ i := Int.emod_nonneg _ (by rw [hm]; omega)
  have h3 : x % 2 ^ i < 2 ^ i := Int.emod_lt_of_pos _ (by rw [hm]; omega)
  exact IntWalk.i64_in _ ⟨by omega, by rw [hm] at h3; omega⟩

/-- The k-th number of a row of ints that came in. -/
theorem row64_at {w : World} {a : Option Addr} {len cap k : Nat} {z : List Int} (h : IsRow .i64 8 w a len cap z) (hk : k < len) : ∃ b off x, a = some ⟨b, off, none⟩ ∧ b < w.heap.size ∧ w.cell? ⟨b, off + k, none⟩ = some (.int .i64 x) ∧ -9223372036854775808 ≤ x ∧ x ≤ 9223372036854775807 := by
  obtain ⟨h1, h2, h3, h4, h5⟩ := h.cells
  obtain ⟨b, off, e, hlt, hc⟩ := h5 (by omega)
  have hx : (z.take len).getD k 0 ∈ z.take len := by
    rw [List.getD_eq_getElem?_getD, List.getElem?_eq_getElem (by rw [h3]; exact hk)]
    exact List.getElem_mem _
  have := wf_i64 (h4 _ hx)
  exact ⟨b, off, _, e, hlt, hc k hk, this.1, this.2⟩
/-- The place of one of m that is counted round. -/
def someI (n : Int) (m : Nat) : Nat := (((n.tmod m) + m).tmod m).toNat
def someH (T : List (Int × Int)) (n : Int) : Int × Int := if T.length = 0 then (0, 0) else T.getD (someI n T.length) (0, 0)
theorem someI_lt (n : Int) (m : Nat) (hm : 0 < m) : someI n m < m ∧ ((n.tmod m) + m).tmod m = (someI n m : Int) ∧ -(m : Int) < n.tmod m ∧ n.tmod m < m := by
  have h1 : n.tmod m < m := Int.tmod_lt_of_pos _ (by omega)
  have h2 : -(m : Int) < n.tmod m := Int.lt_tmod_of_pos _ (by omega)
  have h3 : 0 ≤ (n.tmod m) + m := by omega
  have h4 : 0 ≤ ((n.tmod m) + m).tmod m := Int.tmod_nonneg _ h3
  have h5 : ((n.tmod m) + m).tmod m < m := Int.tmod_lt_of_pos _ (by omega)
  unfold someI
  exact ⟨by omega, by omega, h2, h1⟩
theorem hnd_at {w : World} {B n k : Nat} {a : Option Addr} {xs : List (Int × Int)} (h : RowRd hndL w B a n xs) (hk : k < n) : ∃ b off x, a = some ⟨b, off, none⟩ ∧ b < B ∧ xs[k]? = some x ∧ w.cell? ⟨b, off + k * 2, none⟩ = some (.int .i64 x.1) ∧ w.cell? ⟨b, off + k * 2 + 1, none⟩ = some (.int .u32 x.2) := by
  obtain ⟨b, off, x, e, hlt, hx, hc⟩ := row_at h hk
  exact ⟨b, off, x, e, hlt, hx, hc 0 _ rfl, hc 1 _ rfl⟩
end Go.Proofs.Ytjiofhlmfmhhmaa.Arn
