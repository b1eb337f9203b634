/- A row of records that begins within its block (x[1:] was cut): append onto it. The reference's ring: the contracts of its NewRing, Push, Pop; of SameCells. -/
import Derived.Test.YtkajajihjohenaaHb
set_option maxRecDepth 100000
namespace Go.Proofs.Ytkajajihjohenaa.Rng
open Go.RowKit
open Go.Proofs.Ytkajajihjohenaa.Arn
set_option linter.unusedVariables false

section
variable {α : Type} {L : Lay α} {w w' : World} {base B n c m : Nat} {a A : Option Addr} {xs ys : List α}
/-- The slice A (n, c) holds xs: it has no room at all and none is there, or lies within a block that the call made. -/
def RowIn (L : Lay α) (w : World) (base : Nat) (A : Option Addr) (n c : Nat) (xs : List α) : Prop :=
  xs.length = n ∧ n ≤ c ∧ c ≤ maxLen ∧ ((n = 0 ∧ c = 0 ∧ ∀ q o s, A = some ⟨q, o, s⟩ → s = none) ∨ ∃ g Pre T, A = some ⟨g, Pre.length, none⟩ ∧ base ≤ g ∧ w.heap[g]? = some (.cells (Pre ++ flat L xs ++ T).toArray L.e (0, 0)) ∧ (flat L xs).length + T.length = c * L.s)
theorem RowIn.nil (w : World) (base : Nat) : RowIn L w base none 0 0 [] := ⟨rfl, Nat.le_refl _, Nat.zero_le _, .inl ⟨rfl, rfl, fun q o s h => by cases h⟩⟩
theorem RowIn.len (h : RowIn L w base A n c xs) : xs.length = n := h.1
theorem flat_in {Pre T : List Value} {i j : Nat} {x : α} {v : Value} (hi : xs[i]? = some x) (hv : (L.cel x)[j]? = some v) : (Pre ++ flat L xs ++ T)[Pre.length + i * L.s + j]? = some v := by
  have hf := flat_get L xs i j x v hi hv
  have hlt := (List.getElem?_eq_some_iff.1 hf).1
  rw [List.append_assoc, List.getElem?_append_right (by omega), show Pre.length + i * L.s + j - Pre.length = i * L.s + j from by omega, List.getElem?_append_left hlt]
  exact hf
theorem RowIn.rd (h : RowIn L w base A n c xs) : RowRd L w w.heap.size A n xs := by
  obtain ⟨hx, hn, hc, h⟩ := h
  refine ⟨hx, fun hp => ?_⟩
  rcases h with ⟨h0, -⟩ | ⟨g, Pre, T, rfl, hg, hk, hl⟩
  · omega
  · refine ⟨g, Pre.length, rfl, lt_of_some hk, fun i x hi j v hv => ?_⟩
    rw [cell_of_row w g _ _ L.e (0, 0) hk, List.getElem?_toArray]
    exact flat_in hi hv
theorem RowIn.keep (h : RowIn L w base A n c xs) (hk : ∀ g, base ≤ g → g < w.heap.size → (∃ cs, w.heap[g]? = some (.cells cs L.e (0, 0))) → w'.heap[g]? = w.heap[g]?) : RowIn L w' base A n c xs := by
  obtain ⟨hx, hn, hc, h⟩ := h
  refine ⟨hx, hn, hc, ?_⟩
  rcases h with h | ⟨g, Pre, T, rfl, hg, hb, hl⟩
  · exact .inl h
  · exact .inr ⟨g, Pre, T, rfl, hg, (hk g hg (lt_of_some hb) ⟨_, hb⟩).trans hb, hl⟩
theorem RowIn.bel (h : RowIn L w base A n c xs) (hb : Below w.heap.size w w') : RowIn L w' base A n c xs := h.keep fun g _ hg _ => hb.block g hg
theorem RowIn.upd {S : Nat → Prop} (h : RowIn L w base A n c xs) (hu : Upd S w w') (hS : ∀ k, base ≤ k → ¬ S k) : RowIn L w' base A n c xs := h.keep fun g hb hg _ => hu.2 g hg (hS g hb)
/-- A store into a block of another type leaves it. -/
theorem RowIn.set {b i : Nat} {cs : Array Value} {t : TypeId} {fz : Nat × Nat} (h : RowIn L w base A n c xs) (hb : w.heap[b]? = some (.cells cs t fz)) (ht : t ≠ L.e) (u : Value) : RowIn L (w.setCell ⟨b, i, none⟩ u) base A n c xs := h.keep fun g _ hg ⟨cs', hc⟩ => Below.heap_setCell w ⟨b, i, none⟩ u g (by
  rintro rfl
  rw [hb] at hc
  simp only [Option.some.injEq, Obj.cells.injEq] at hc
  exact ht hc.2.1)
/-- Where the slice lies. -/
theorem RowIn.lt (h : RowIn L w base A n c xs) (hc : 0 < c) {q o : Nat} (hA : A = some ⟨q, o, none⟩) : base ≤ q ∧ ∃ cs, w.heap[q]? = some (.cells cs L.e (0, 0)) := by
  obtain ⟨-, -, -, h⟩ := h
  rcases h with ⟨-, h0, -⟩ | ⟨g, Pre, T, e, hg, hk, -⟩
  · omega
  · rw [hA] at e
    simp only [Option.some.injEq, Addr.mk.injEq] at e
    obtain ⟨rfl, -⟩ := e
    exact ⟨hg, _, hk⟩
theorem RowIn.new (h : RowIn L w base A n c xs) {q : Nat} (hq : w.heap.size ≤ q) : 0 < c → ∀ o, A ≠ some ⟨q, o, none⟩ := fun hc o e => by
  obtain ⟨-, cs, hk⟩ := h.lt hc e
  have := lt_of_some hk
  omega
theorem RowIn.off (h : RowIn L w base A n c xs) {q : Nat} {cs : Array Value} {t : TypeId} {fz : Nat × Nat} (hq : w.heap[q]? = some (.cells cs t fz)) (ht : t ≠ L.e) : 0 < c → ∀ o, A ≠ some ⟨q, o, none⟩ := fun hc o e => by
  obtain ⟨-, cs', hk⟩ := h.lt hc e
  rw [hq] at hk
  simp only [Option.some.injEq, Obj.cells.injEq] at hk
  exact ht hk.2.1
theorem RowIn.updN (h : RowIn L w base A n c xs) {q : Nat} (hu : Upd (fun k => k = q) w w') (hq : 0 < c → ∀ o, A ≠ some ⟨q, o, none⟩) : RowIn L w' base A n c xs := by
  obtain ⟨hx, hn, hc, h⟩ := h
  refine ⟨hx, hn, hc, ?_⟩
  rcases h with h | ⟨g, Pre, T, rfl, hg, hk, hl⟩
  · exact .inl h
  · rcases Nat.eq_zero_or_pos c with h0 | h0
    · refine .inl ⟨by omega, h0, fun q o s e => ?_⟩
      simp only [Option.some.injEq, Addr.mk.injEq] at e
      exact e.2.2.symm
    · refine .inr ⟨g, Pre, T, rfl, hg, hu.keep hk (fun e => hq h0 Pre.length (by rw [e])), hl⟩
theorem append_in {P : Program} {t ty : TypeId} {i0 : TypeInfo} {z : Value} {bytes k : Nat} (ht : P.underlying t = some (.slice L.e)) (hi : P.info? L.e = some i0) (hz : i0.zero = some z) (hs : i0.size = L.s) (hby : i0.bytes = bytes) (hzs : z.cells.size = L.s)
    (ho : RowIn L w base A n c xs) (hr : RowRd L w B a m ys) (hm : 0 < m) (hb : base ≤ w.heap.size) (h63 : n + m ≤ maxLen) (hbytes : (n + m) * bytes ≤ 140737488355328) :
    ∃ A' c' w', (Builtin.append_ #[t, t] ty #[.slice A n c, .slice a m k]).run P w = .ok (.slice A' (n + m) c') w' ∧ RowIn L w' base A' (n + m) c' (xs ++ ys) ∧ Upd (fun q => base ≤ q) w w' ∧ (∀ q : Nat, q < w.heap.size → (0 < c → ∀ o, A ≠ some ⟨q, o, none⟩) → w'.heap[q]? = w.heap[q]?) := by
  obtain ⟨hx, hn, hc, h⟩ := ho
  obtain ⟨b, off, rfl, _, hcell⟩ := hr.2 hm
  have hsmall : n + m ≤ 9223372036854775807 := by simp only [maxLen] at h63; omega
  have hl : (flat L ys).length = m * i0.size := by rw [flat_len, hr.1, hs]
  have hnews : ∀ j u, (flat L ys)[j]? = some u → w.cell? ((⟨b, off, none⟩ : Addr).add j) = some u := fun j u hu => by
    have hj := (List.getElem?_eq_some_iff.1 hu).1
    rw [flat_len, hr.1] at hj
    have hdm := Nat.div_add_mod j L.s
    have hq : j / L.s < ys.length := by rw [hr.1]; exact Nat.div_lt_of_lt_mul (by rw [Nat.mul_comm]; exact hj)
    have hr' : j % L.s < (L.cel ys[j / L.s]).length := by rw [L.len]; exact Nat.mod_lt _ L.pos
    have hg := flat_get L ys (j / L.s) (j % L.s) _ _ (List.getElem?_eq_getElem hq) (List.getElem?_eq_getElem hr')
    have he : j / L.s * L.s + j % L.s = j := by rw [Nat.mul_comm]; exact hdm
    rw [he, hu] at hg
    rw [plain_add, show off + j = off + j / L.s * L.s + j % L.s from by omega, hcell _ _ (List.getElem?_eq_getElem hq) _ _ (List.getElem?_eq_getElem hr'), hg]
  have hlen : (flat L xs ++ flat L ys).length = (n + m) * L.s := by rw [List.length_append, flat_len, flat_len, hx, hr.1, Nat.add_mul]
  have grown : ∀ (old : Nat), old < n + m →
      RowIn L (w.drew.alloc (.cells ((flat L xs).toArray ++ (flat L ys).toArray ++ Builtin.zeroCells z.cells (grownCap w (n + m) old L.e - (n + m))) L.e)) base (some ⟨w.heap.size, 0, none⟩) (n + m) (grownCap w (n + m) old L.e) (xs ++ ys) ∧
      Upd (fun q => base ≤ q) w (w.drew.alloc (.cells ((flat L xs).toArray ++ (flat L ys).toArray ++ Builtin.zeroCells z.cells (grownCap w (n + m) old L.e - (n + m))) L.e)) ∧
      (∀ q : Nat, q < w.heap.size → (w.drew.alloc (.cells ((flat L xs).toArray ++ (flat L ys).toArray ++ Builtin.zeroCells z.cells (grownCap w (n + m) old L.e - (n + m))) L.e)).heap[q]? = w.heap[q]?) := by
    intro old hold
    have hge := grownCap_ge w (n + m) old L.e
    have hcm : grownCap w (n + m) old L.e ≤ maxLen := grownCap_le_maxLen w (n + m) old L.e h63
    refine ⟨⟨by rw [List.length_append, hx, hr.1], hge, hcm, .inr ⟨w.heap.size, [], (Builtin.zeroCells z.cells (grownCap w (n + m) old L.e - (n + m))).toList, rfl, hb, ?_, ?_⟩⟩, ?_, fun q hq => Below.heap_alloc w.drew _ q hq⟩
    · refine Eq.trans (heap_alloc_new w.drew _) ?_
      simp [flat]
    · rw [← flat_append, hlen, Array.length_toList, size_zeroCells, hzs, ← Nat.add_mul]
      congr 1
      omega
    · exact (Upd.refl _ _).drew.alloc _
  rcases h with ⟨rfl, rfl, hA⟩ | ⟨g, Pre, T, rfl, hg, hk, hT⟩
  · obtain rfl : xs = [] := List.eq_nil_of_length_eq_zero hx
    have hgr := grown 0 (by omega)
    rcases A with _ | ⟨q, o, s⟩
    · have hrun := run_append_nil (P := P) w t ty L.e i0 z ht hi hz ⟨b, off, none⟩ m k (flat L ys) hl hnews hm (by omega) (by rw [hby]; rw [Nat.zero_add] at hbytes; omega)
      simp only [Nat.zero_add, flat, List.flatMap_nil, List.nil_append, Array.empty_append] at hgr hrun ⊢
      exact ⟨_, _, _, hrun, hgr.1, hgr.2.1, fun q hq _ => hgr.2.2 q hq⟩
    · have hrun := run_append_grow (P := P) w t ty L.e i0 z ht hi hz ⟨q, o, s⟩ 0 0 [] (by simp) (by simp) ⟨b, off, none⟩ m k (flat L ys) hl hnews (by omega) (by omega) (growslice_fits (by omega) (by rw [hby]; exact hbytes))
      exact ⟨_, _, _, hrun, hgr.1, hgr.2.1, fun q hq _ => hgr.2.2 q hq⟩
  · by_cases hroom : n + m ≤ c
    · have hf := run_firstCells_some (P := P) w i0.size m ⟨b, off, none⟩ m k (flat L ys) hl hnews
      have hfit : Pre.length + n * i0.size + (flat L ys).length ≤ (Pre ++ flat L xs ++ T).toArray.size := by
        rw [List.size_toArray, List.length_append, List.length_append, hl, hs]
        have : n * L.s + m * L.s ≤ c * L.s := by rw [← Nat.add_mul]; exact Nat.mul_le_mul_right _ hroom
        have h2 : (flat L xs).length = n * L.s := by rw [flat_len, hx]
        omega
      have hst := run_storeCells_at P g (Pre.length + n * i0.size) L.e (flat L ys) 0 _ w hk (by simpa using hfit) (flat_one L ys)
      simp only [Nat.add_zero] at hst
      have hrun : (Builtin.append_ #[t, t] ty #[.slice (some ⟨g, Pre.length, none⟩) n c, .slice (some ⟨b, off, none⟩) m k]).run P w = .ok (.slice (some ⟨g, Pre.length, none⟩) (n + m) c) (w.setRow g ((Pre ++ flat L xs ++ T).take (Pre.length + n * i0.size) ++ flat L ys ++ (Pre ++ flat L xs ++ T).drop (Pre.length + n * i0.size + (flat L ys).length)).toArray) := by
        simp [Builtin.append_, run_underlying ht, sizeOf, typeInfo, hi, Builtin.lenOf, hroom, hf, plain_add, hst]
      refine ⟨_, _, _, hrun, ⟨by rw [List.length_append, hx, hr.1], hroom, hc, .inr ⟨g, Pre, T.drop (flat L ys).length, rfl, hg, ?_, ?_⟩⟩, ⟨⟨rfl, rfl, rfl, by simp, fun i hi => absurd hi (Nat.not_lt_zero i)⟩, fun i _ hi => setRow_other w g i _ (fun e => hi (by rw [e]; exact hg))⟩, ?_⟩
      · rw [setRow_heap w g _ _ L.e _ hk]
        have h2 : (flat L xs).length = n * i0.size := by rw [flat_len, hx, hs]
        have e1 : (Pre ++ flat L xs ++ T).take (Pre.length + n * i0.size) = Pre ++ flat L xs := by
          rw [List.take_append_of_le_length (by rw [List.length_append, h2]; exact Nat.le_refl _), List.take_of_length_le (by rw [List.length_append, h2]; exact Nat.le_refl _)]
        have e2 : (Pre ++ flat L xs ++ T).drop (Pre.length + n * i0.size + (flat L ys).length) = T.drop (flat L ys).length := by
          rw [List.drop_append, List.drop_of_length_le (by rw [List.length_append, h2]; omega), List.nil_append, List.length_append, h2]
          congr 1
          omega
        rw [e1, e2, ← flat_append, List.append_assoc Pre]
      · rw [← flat_append, hlen, List.length_drop, hl, hs]
        have : n * L.s + m * L.s ≤ c * L.s := by rw [← Nat.add_mul]; exact Nat.mul_le_mul_right _ hroom
        have h2 : (flat L xs).length = n * L.s := by rw [flat_len, hx]
        rw [Nat.add_mul]
        omega
      · intro q hq hA
        refine setRow_other w g q _ ?_
        rintro rfl
        refine hA ?_ _ rfl
        omega
    · have holds : ∀ j u, (flat L xs)[j]? = some u → w.cell? ((⟨g, Pre.length, none⟩ : Addr).add j) = some u := fun j u hu => by
        have hlt := (List.getElem?_eq_some_iff.1 hu).1
        rw [plain_add, cell_of_row w g _ _ L.e (0, 0) hk, List.getElem?_toArray, List.append_assoc, List.getElem?_append_right (by omega), show Pre.length + j - Pre.length = j from by omega, List.getElem?_append_left hlt]
        exact hu
      have hgr := grown c (by omega)
      have hrun := run_append_grow (P := P) w t ty L.e i0 z ht hi hz ⟨g, Pre.length, none⟩ n c (flat L xs) (by rw [flat_len, hx, hs]) holds ⟨b, off, none⟩ m k (flat L ys) hl hnews (by omega) (by omega) (growslice_fits (by omega) (by rw [hby]; exact hbytes))
      exact ⟨_, _, _, hrun, hgr.1, hgr.2.1, fun q hq _ => hgr.2.2 q hq⟩
theorem oper_append_in {P : Program} {o : Oper} {act : Act} {K : Act → World → Prop} {Q : Exit → Act → World → Prop} {t : TypeId} {i0 : TypeInfo} {z : Value} {bytes k N : Nat} (s x : Operand)
    (hop : o.op = .call { callee := .builtin .append, args := #[s, x], argTypes := #[t, t] }) (ht : P.underlying t = some (.slice L.e)) (hi : P.info? L.e = some i0) (hz : i0.zero = some z) (hsz : i0.size = L.s) (hby : i0.bytes = bytes) (hzs : z.cells.size = L.s)
    (zs : List α) (hN : n + m = N) (hzz : xs ++ ys = zs) (hs : act.eval s = .slice A n c) (hx : act.eval x = .slice a m k)
    (ho : RowIn L w base A n c xs) (hr : RowRd L w B a m ys) (hm : 0 < m) (hb : base ≤ w.heap.size) (h63 : n + m ≤ maxLen) (hbytes : (n + m) * bytes ≤ 140737488355328)
    (h : ∀ A' c' w', RowIn L w' base A' N c' zs → Upd (fun q => base ≤ q) w w' → (∀ q : Nat, q < w.heap.size → (0 < c → ∀ o, A ≠ some ⟨q, o, none⟩) → w'.heap[q]? = w.heap[q]?) → K (act.put o.dst (.slice A' N c')) w') : Oper.wp P o act w K Q := by
  subst hN
  subst hzz
  obtain ⟨A', c', w', hrun, ho', hb', hd'⟩ := append_in (k := k) (ty := o.type) ht hi hz hsz hby hzs ho hr hm hb h63 hbytes
  unfold Oper.wp execOp
  simp only [hop, resolve, invoke, builtin, Sem.run_bind, Sem.run_pure, Result.andThen_ok, List.map_toArray, List.map_cons, List.map_nil, hs, hx, hrun]
  exact h A' c' w' ho' hb' hd'
/-- x[1:]: where it lies. -/
theorem RowIn.tail {x : α} {X : Option Addr} (h : RowIn L w base A (n + 1) c (x :: xs)) (hX : ∀ b off, A = some ⟨b, off, none⟩ → c ≠ 1 → X = some ⟨b, off + 1 * L.s, none⟩) (hX1 : c = 1 → X = A) : RowIn L w base X n (c - 1) xs := by
  obtain ⟨hx, hn, hc, h⟩ := h
  rw [List.length_cons] at hx
  refine ⟨by omega, by omega, by omega, ?_⟩
  rcases h with ⟨h0, -⟩ | ⟨g, Pre, T, rfl, hg, hk, hl⟩
  · omega
  · by_cases h1 : c = 1
    · refine .inl ⟨by omega, by omega, fun q o s e => ?_⟩
      rw [hX1 h1] at e
      simp only [Option.some.injEq, Addr.mk.injEq] at e
      exact e.2.2.symm
    · refine .inr ⟨g, Pre ++ L.cel x, T, ?_, hg, ?_, ?_⟩
      · rw [hX _ _ rfl h1, List.length_append, L.len, Nat.one_mul]
      · rw [hk, flat_cons, List.append_assoc, List.append_assoc, List.append_assoc, List.append_assoc]
      · rw [flat_cons, List.length_append, L.len] at hl
        rw [Nat.sub_mul]
        omega
end
end Go.Proofs.Ytkajajihjohenaa.Rng
