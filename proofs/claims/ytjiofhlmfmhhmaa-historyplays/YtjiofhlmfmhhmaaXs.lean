/- Rows of records, whichever type: 'RowRd' a slice of them that reads as a list, 'RowOwn' a row of the call's own; append. No function of the program. -/
import Derived.Test.YtjiofhlmfmhhmaaXr
set_option maxRecDepth 100000
namespace Go.Proofs.Ytjiofhlmfmhhmaa
open Go.RowKit
set_option linter.unusedVariables false

/-- How a record lies in memory: the row's element type, how many cells, which. -/
structure Lay (α : Type) where
  e : TypeId
  s : Nat
  cel : α → List Value
  len : ∀ x, (cel x).length = s
  one : ∀ x, ∀ v ∈ cel x, v.oneCell' = true
  pos : 0 < s
section
variable {α : Type} (L : Lay α)
def flat (xs : List α) : List Value := xs.flatMap L.cel
theorem flat_len (xs : List α) : (flat L xs).length = xs.length * L.s := by
  induction xs with
  | nil => simp [flat]
  | cons x r ih =>
    unfold flat at ih ⊢
    rw [List.flatMap_cons, List.length_append, ih, L.len, List.length_cons, Nat.add_mul, Nat.one_mul, Nat.add_comm]
theorem flat_get : ∀ (xs : List α) (i j : Nat) (x : α) (v : Value), xs[i]? = some x → (L.cel x)[j]? = some v → (flat L xs)[i * L.s + j]? = some v
  | [], i, j, x, v, h, _ => by simp at h
  | y :: r, 0, j, x, v, h, hv => by
    simp only [List.getElem?_cons_zero, Option.some.injEq] at h
    subst h
    have hj : j < (L.cel y).length := (List.getElem?_eq_some_iff.1 hv).1
    unfold flat
    rw [Nat.zero_mul, Nat.zero_add, List.flatMap_cons, List.getElem?_append_left hj]; exact hv
  | y :: r, i + 1, j, x, v, h, hv => by
    rw [List.getElem?_cons_succ] at h
    have ih := flat_get r i j x v h hv
    unfold flat at ih ⊢
    rw [List.flatMap_cons, List.getElem?_append_right (by rw [L.len, Nat.add_mul]; omega), L.len, show (i + 1) * L.s + j - L.s = i * L.s + j from by rw [Nat.add_mul]; omega]; exact ih
theorem flat_one (xs : List α) : ∀ v ∈ flat L xs, v.oneCell' = true := by
  intro v hv
  simp only [flat, List.mem_flatMap] at hv
  obtain ⟨x, _, hx⟩ := hv
  exact L.one x v hx
theorem flat_append (xs ys : List α) : flat L xs ++ flat L ys = flat L (xs ++ ys) := by simp [flat]

/-- A slice of records that reads as a list, nil let in, and lies below block B. -/
def RowRd (w : World) (B : Nat) (a : Option Addr) (n : Nat) (xs : List α) : Prop :=
  xs.length = n ∧ (0 < n → ∃ b off, a = some ⟨b, off, none⟩ ∧ b < B ∧ ∀ i x, xs[i]? = some x → ∀ j v, (L.cel x)[j]? = some v → w.cell? ⟨b, off + i * L.s + j, none⟩ = some v)
/-- The slice A (n, c) is nil, or the head of a block that the call made. -/
def RowOwn (w : World) (base : Nat) (A : Option Addr) (n c : Nat) (xs : List α) : Prop :=
  xs.length = n ∧ n ≤ c ∧ c ≤ maxLen ∧ ((A = none ∧ n = 0 ∧ c = 0) ∨ ∃ g T, A = some ⟨g, 0, none⟩ ∧ base ≤ g ∧ w.heap[g]? = some (.cells (flat L xs ++ T).toArray L.e (0, 0)) ∧ (flat L xs).length + T.length = c * L.s)
variable {L} {w w' : World} {B base n c : Nat} {a A : Option Addr} {xs ys : List α}
theorem RowRd.below (h : RowRd L w B a n xs) (hb : Below B w w') : RowRd L w' B a n xs :=
  ⟨h.1, fun hn => by
    obtain ⟨b, off, e, hlt, hc⟩ := h.2 hn
    exact ⟨b, off, e, hlt, fun i x hx j v hv => (hb.cell (p := ⟨b, off + i * L.s + j, none⟩) hlt).trans (hc i x hx j v hv)⟩⟩
theorem RowRd.more {B' : Nat} (h : RowRd L w B a n xs) (hB : B ≤ B') : RowRd L w B' a n xs :=
  ⟨h.1, fun hn => by
    obtain ⟨b, off, e, hlt, hc⟩ := h.2 hn
    exact ⟨b, off, e, by omega, hc⟩⟩
theorem RowRd.none_ (a : Option Addr) (h : xs = []) : RowRd L w B a 0 xs := by subst h; exact ⟨rfl, fun h => absurd h (by omega)⟩
theorem RowOwn.nil (w : World) (base : Nat) : RowOwn L w base none 0 0 [] := ⟨rfl, Nat.le_refl _, Nat.zero_le _, .inl ⟨rfl, rfl, rfl⟩⟩
theorem RowOwn.row (h : RowOwn L w base A n c xs) : w.ownsRow base L.e L.s (.slice A n c) n (flat L xs) := by
  obtain ⟨hx, hnc, hcm, h⟩ := h
  refine ⟨by rw [flat_len, hx], ?_⟩
  rcases h with ⟨rfl, rfl, rfl⟩ | ⟨g, T, rfl, hb, hk, hl⟩
  · exact .inl ⟨rfl, rfl⟩
  · refine .inr ⟨g, c, _, rfl, hb, hk, hnc, hcm, by rw [List.size_toArray, List.length_append, hl], ?_⟩
    rw [List.take_append_of_le_length (by rw [flat_len, hx]; exact Nat.le_refl _), List.take_of_length_le (by rw [flat_len, hx]; exact Nat.le_refl _)]
theorem rowOwn_of {v : Value} (h : w.ownsRow base L.e L.s v n (flat L xs)) : ∃ A c, v = .slice A n c ∧ RowOwn L w base A n c xs := by
  have hx : xs.length = n := by have := h.1; rw [flat_len] at this; exact Nat.eq_of_mul_eq_mul_right L.pos this
  rcases h.2 with ⟨rfl, rfl⟩ | ⟨g, cap, cur, rfl, hbg, hg, hnc, hcm, hcs, ht⟩
  · exact ⟨none, 0, rfl, hx, Nat.le_refl _, Nat.zero_le _, .inl ⟨rfl, rfl, rfl⟩⟩
  · refine ⟨_, cap, rfl, hx, hnc, hcm, .inr ⟨g, cur.toList.drop (n * L.s), rfl, hbg, ?_, ?_⟩⟩
    · rw [hg, ← ht, List.take_append_drop]
    · rw [← ht, ← List.length_append, List.take_append_drop, Array.length_toList, hcs]
theorem lt_of_some {g : Nat} {o : Obj} (h : w.heap[g]? = some o) : g < w.heap.size := by
  rcases Nat.lt_or_ge g w.heap.size with hlt | hge
  · exact hlt
  · rw [Array.getElem?_eq_none hge] at h; cases h
theorem RowOwn.rd (h : RowOwn L w base A n c xs) : RowRd L w w.heap.size A n xs := by
  obtain ⟨hx, _, _, h⟩ := h
  rcases h with ⟨rfl, rfl, rfl⟩ | ⟨g, T, rfl, _, hk, _⟩
  · exact ⟨hx, fun h => absurd h (by omega)⟩
  · refine ⟨hx, fun _ => ⟨g, 0, rfl, lt_of_some hk, fun i x hi j v hv => ?_⟩⟩
    have hf := flat_get L xs i j x v hi hv
    rw [Nat.zero_add, cell_of_row w g _ _ L.e (0, 0) hk, List.getElem?_toArray, List.getElem?_append_left (List.getElem?_eq_some_iff.1 hf).1]; exact hf
theorem RowOwn.keep (h : RowOwn L w base A n c xs) (hk : ∀ g, A = some ⟨g, 0, none⟩ → g < w.heap.size → w'.heap[g]? = w.heap[g]?) : RowOwn L w' base A n c xs := by
  obtain ⟨hx, hnc, hcm, h⟩ := h
  refine ⟨hx, hnc, hcm, ?_⟩
  rcases h with h | ⟨g, T, rfl, hbg, hg, hl⟩
  · exact .inl h
  · exact .inr ⟨g, T, rfl, hbg, (hk g rfl (lt_of_some hg)).trans hg, hl⟩
theorem RowOwn.keepB (h : RowOwn L w base A n c xs) (hk : ∀ g, base ≤ g → g < w.heap.size → w'.heap[g]? = w.heap[g]?) : RowOwn L w' base A n c xs := by
  obtain ⟨hx, hnc, hcm, h⟩ := h
  refine ⟨hx, hnc, hcm, ?_⟩
  rcases h with h | ⟨g, T, rfl, hbg, hg, hl⟩
  · exact .inl h
  · exact .inr ⟨g, T, rfl, hbg, (hk g hbg (lt_of_some hg)).trans hg, hl⟩
theorem RowOwn.setOff {b i : Nat} (h : RowOwn L w base A n c xs) (hb : b < base) (u : Value) : RowOwn L (w.setCell ⟨b, i, none⟩ u) base A n c xs :=
  h.keepB fun g hg _ => Below.heap_setCell w ⟨b, i, none⟩ u g (by show g ≠ b; omega)
theorem RowOwn.below {B : Nat} (h : RowOwn L w base A n c xs) (hb : Below B w w') (hB : w.heap.size ≤ B) : RowOwn L w' base A n c xs := h.keep fun g _ hg => hb.block g (Nat.lt_of_lt_of_le hg hB)
theorem RowOwn.bel (h : RowOwn L w base A n c xs) (hb : Below w.heap.size w w') : RowOwn L w' base A n c xs := h.below hb (Nat.le_refl _)
theorem RowOwn.lower {base' : Nat} (h : RowOwn L w base A n c xs) (hb : base' ≤ base) : RowOwn L w base' A n c xs := by
  obtain ⟨hx, hnc, hcm, h⟩ := h
  refine ⟨hx, hnc, hcm, ?_⟩
  rcases h with h | ⟨g, T, rfl, hbg, hg, hl⟩
  · exact .inl h
  · exact .inr ⟨g, T, rfl, by omega, hg, hl⟩
/-- A store into a block of another type leaves it. -/
theorem RowOwn.set {b i : Nat} {cs : Array Value} {t : TypeId} {fz : Nat × Nat} (h : RowOwn L w base A n c xs) (hb : w.heap[b]? = some (.cells cs t fz)) (ht : t ≠ L.e) (u : Value) : RowOwn L (w.setCell ⟨b, i, none⟩ u) base A n c xs := by
  obtain ⟨hx, hnc, hcm, h⟩ := h
  refine ⟨hx, hnc, hcm, ?_⟩
  rcases h with h | ⟨g, T, rfl, hbg, hg, hl⟩
  · exact .inl h
  · refine .inr ⟨g, T, rfl, hbg, (Below.heap_setCell w ⟨b, i, none⟩ u g ?_).trans hg, hl⟩
    rintro rfl
    rw [hg] at hb
    simp only [Option.some.injEq, Obj.cells.injEq] at hb
    exact ht hb.2.1.symm
/-- A row of records that lies whole at a block of its own. -/
theorem rowRd_blk {g : Nat} (h : w.heap[g]? = some (.cells (flat L xs).toArray L.e (0, 0))) (hn : xs.length = n) : RowRd L w w.heap.size (some ⟨g, 0, none⟩) n xs :=
  ⟨hn, fun _ => ⟨g, 0, rfl, lt_of_some h, fun i x hi j v hv => by
    have hf := flat_get L xs i j x v hi hv
    rw [Nat.zero_add, cell_of_row w g _ _ L.e (0, 0) h, List.getElem?_toArray]; exact hf⟩⟩

theorem append_rows {P : Program} {t ty : TypeId} {i0 : TypeInfo} {z : Value} {bytes m k b off : Nat} (ht : P.underlying t = some (.slice L.e)) (hi : P.info? L.e = some i0) (hz : i0.zero = some z) (hs : i0.size = L.s) (hby : i0.bytes = bytes) (hzs : z.cells.size = L.s)
    (ho : RowOwn L w base A n c xs) (hr : RowRd L w B (some ⟨b, off, none⟩) m ys) (hb : base ≤ w.heap.size) (h63 : n + m ≤ maxLen) (hbytes : (n + m) * bytes ≤ 140737488355328) :
    ∃ A' c' w', (Builtin.append_ #[t, t] ty #[.slice A n c, .slice (some ⟨b, off, none⟩) m k]).run P w = .ok (.slice A' (n + m) c') w' ∧ RowOwn L w' base A' (n + m) c' (xs ++ ys) ∧ Below base w w' := by
  have hrow := ho.row
  have hlt := hrow.lt
  obtain ⟨v', w', hrun, h2, h3, _, h5⟩ := run_append_own_at (P := P) w base t ty L.e i0 z L.s bytes ht hi hz hs hby hzs L.pos _ n _ hrow ⟨b, off, none⟩ m k (flat L ys)
    (by rw [flat_len, hr.1]) (fun j u hu => by
      have hj := (List.getElem?_eq_some_iff.1 hu).1
      rw [flat_len, hr.1] at hj
      have hm : 0 < m := by
        rcases Nat.eq_zero_or_pos m with h0 | h0
        · subst h0; omega
        · exact h0
      obtain ⟨b', off', e, _, hc⟩ := hr.2 hm
      simp only [Option.some.injEq, Addr.mk.injEq, and_true] at e
      obtain ⟨rfl, rfl⟩ := e
      have hdm := Nat.div_add_mod j L.s
      have hq : j / L.s < ys.length := by rw [hr.1]; exact Nat.div_lt_of_lt_mul (by rw [Nat.mul_comm]; exact hj)
      have hr' : j % L.s < (L.cel ys[j / L.s]).length := by rw [L.len]; exact Nat.mod_lt _ L.pos
      have hg := flat_get L ys (j / L.s) (j % L.s) _ _ (List.getElem?_eq_getElem hq) (List.getElem?_eq_getElem hr')
      have he : j / L.s * L.s + j % L.s = j := by rw [Nat.mul_comm]; exact hdm
      rw [he, hu] at hg
      rw [plain_add, show off + j = off + j / L.s * L.s + j % L.s from by omega, hc _ _ (List.getElem?_eq_getElem hq) _ _ (List.getElem?_eq_getElem hr'), hg]) (flat_one L ys) h63 hbytes hb
  rw [flat_append] at h2
  obtain ⟨A', c', rfl, ho'⟩ := rowOwn_of h2
  exact ⟨A', c', w', hrun, ho', (Below.refl _ _).grown h3 hb (fun q hq => (hlt q hq).1)⟩

/-- The same as an operation that comes up in a region. -/
theorem oper_append_rows {P : Program} {o : Oper} {act : Act} {K : Act → World → Prop} {Q : Exit → Act → World → Prop} {t : TypeId} {i0 : TypeInfo} {z : Value} {bytes m k b off N : Nat} (s x : Operand)
    (hop : o.op = .call { callee := .builtin .append, args := #[s, x], argTypes := #[t, t] }) (ht : P.underlying t = some (.slice L.e)) (hi : P.info? L.e = some i0) (hz : i0.zero = some z) (hsz : i0.size = L.s) (hby : i0.bytes = bytes) (hzs : z.cells.size = L.s)
    (zs : List α) (hN : n + m = N) (hzz : xs ++ ys = zs) (hs : act.eval s = .slice A n c) (hx : act.eval x = .slice (some ⟨b, off, none⟩) m k)
    (ho : RowOwn L w base A n c xs) (hr : RowRd L w B (some ⟨b, off, none⟩) m ys) (hb : base ≤ w.heap.size) (h63 : n + m ≤ maxLen) (hbytes : (n + m) * bytes ≤ 140737488355328)
    (h : ∀ A' c' w', RowOwn L w' base A' N c' zs → Below base w w' → K (act.put o.dst (.slice A' N c')) w') : Oper.wp P o act w K Q := by
  subst hN
  subst hzz
  obtain ⟨A', c', w', hrun, ho', hb'⟩ := append_rows (k := k) (ty := o.type) ht hi hz hsz hby hzs ho hr hb h63 hbytes
  unfold Oper.wp execOp
  simp only [hop, resolve, invoke, builtin, Sem.run_bind, Sem.run_pure, Result.andThen_ok, List.map_toArray, List.map_cons, List.map_nil, hs, hx, hrun]
  exact h A' c' w' ho' hb'
end
end Go.Proofs.Ytjiofhlmfmhhmaa
