/- Append onto a row of the call's own: no block but the row's own is other behind it. No function of the program. -/
import Derived.Test.YtachodjpiklpkaaEd
import Derived.Test.YtachodjpiklpkaaXt
set_option maxRecDepth 100000
namespace Go.Proofs.Ytachodjpiklpkaa.Arn
open Go.RowKit
set_option linter.unusedVariables false

section
variable {α : Type} {L : Lay α} {w : World} {B base n c : Nat} {a A : Option Addr} {xs ys : List α}
theorem append_rows_upd {P : Program} {t ty : TypeId} {i0 : TypeInfo} {z : Value} {bytes m k : Nat} (ht : P.underlying t = some (.slice L.e)) (hi : P.info? L.e = some i0) (hz : i0.zero = some z) (hs : i0.size = L.s) (hby : i0.bytes = bytes) (hzs : z.cells.size = L.s)
    (ho : RowOwn L w base A n c xs) (hr : RowRd L w B a m ys) (hb : base ≤ w.heap.size) (h63 : n + m ≤ maxLen) (hbytes : (n + m) * bytes ≤ 140737488355328) :
    ∃ A' c' w', (Builtin.append_ #[t, t] ty #[.slice A n c, .slice a m k]).run P w = .ok (.slice A' (n + m) c') w' ∧ RowOwn L w' base A' (n + m) c' (xs ++ ys) ∧ Upd (fun k => A = some ⟨k, 0, none⟩) w w' ∧ (∀ k, A' = some ⟨k, 0, none⟩ → A = some ⟨k, 0, none⟩ ∨ k = w.heap.size) := by
  rcases Nat.eq_zero_or_pos m with h0 | h0
  · subst h0
    obtain rfl : ys = [] := List.eq_nil_of_length_eq_zero hr.1
    refine ⟨A, c, w, ?_, by simpa using ho, Upd.refl _ _, fun k hk => .inl hk⟩
    rcases a with _ | ad
    · rcases ho.2.2.2 with ⟨rfl, rfl, rfl⟩ | ⟨g, T, rfl, hbg, hk, hl⟩
      · simp [Builtin.append_, run_underlying ht, sizeOf, typeInfo, hi, Builtin.lenOf, Builtin.firstCells]
      · simp [Builtin.append_, run_underlying ht, sizeOf, typeInfo, hi, Builtin.lenOf, Builtin.firstCells, ho.2.1, storeCells]
    · rcases ho.2.2.2 with ⟨rfl, rfl, rfl⟩ | ⟨g, T, rfl, hbg, hk, hl⟩
      · simp [Builtin.append_, run_underlying ht, sizeOf, typeInfo, hi, Builtin.lenOf, Builtin.firstCells, loadCells, loadCellsFrom]
      · simp [Builtin.append_, run_underlying ht, sizeOf, typeInfo, hi, Builtin.lenOf, Builtin.firstCells, ho.2.1, storeCells, loadCells, loadCellsFrom]
  · obtain ⟨b, off, rfl, _⟩ := hr.2 h0
    have hrow := ho.row
    have hlt := hrow.lt
    obtain ⟨v', w', hrun, h2, h3, _, h5⟩ := run_append_own_at (P := P) w base t ty L.e i0 z L.s bytes ht hi hz hs hby hzs L.pos _ n _ hrow ⟨b, off, none⟩ m k (flat L ys)
      (by rw [flat_len, hr.1]) (fun j u hu => by
        have hj := (List.getElem?_eq_some_iff.1 hu).1
        rw [flat_len, hr.1] at hj
        obtain ⟨b', off', e, _, hc⟩ := hr.2 h0
        simp only [Option.some.injEq, Addr.mk.injEq, and_true] at e
        obtain ⟨rfl, rfl⟩ := e
        have hdm := Nat.div_add_mod j L.s
        have hq : j / L.s < ys.length := by rw [hr.1]; exact Nat.div_lt_of_lt_mul (by rw [Nat.mul_comm]; exact hj)
        have hr' : j % L.s < (L.cel ys[j / L.s]).length := by rw [L.len]; exact Nat.mod_lt _ L.pos
        have hg := flat_get L ys (j / L.s) (j % L.s) _ _ (List.getElem?_eq_getElem hq) (List.getElem?_eq_getElem hr')
        have he : j / L.s * L.s + j % L.s = j := by rw [Nat.mul_comm]; exact hdm
        rw [he, hu] at hg
        rw [plain_add, show off + j = off + j / L.s * L.s + j % L.s from by omega, hc _ _ (List.getElem?_eq_getElem hq) _ _ (List.getElem?_eq_getElem hr'), hg]) (flat_one L ys) h63 hbytes hb
    rw [flat_append] at h2
    obtain ⟨A', c', rfl, ho'⟩ := rowOwn_of h2
    have hbel : Below base w w' := (Below.refl _ _).grown h3 hb (fun q hq => (hlt q hq).1)
    refine ⟨A', c', w', hrun, ho', ⟨hbel.mono (Nat.zero_le _), fun q hq hn => h3.block q hq ?_⟩, fun q hq => ?_⟩
    rotate_left
    · subst hq
      rcases h5 with h5 | h5
      · rcases ho.2.2.2 with ⟨rfl, -, -⟩ | ⟨g, T, rfl, -⟩
        · simp [Value.ownBlock] at h5
        · simp only [Value.ownBlock, Option.some.injEq] at h5
          exact .inl (by rw [h5])
      · simp only [Value.ownBlock, Option.some.injEq] at h5
        exact .inr h5
    intro heq
    rcases ho.2.2.2 with ⟨rfl, rfl, rfl⟩ | ⟨g, T, rfl, hbg, hk, hl⟩
    · simp [Value.ownBlock] at heq
    · simp only [Value.ownBlock, Option.some.injEq] at heq
      exact hn (by rw [heq])
/-- The same as a step of the walk: behind the guard 'at_builtin'. -/
theorem wpList_append_upd {P : Program} {ops : Array Oper} {rest : List Oper} {o : Oper} {act : Act} {Q : Exit → Act → World → Prop} {t : TypeId} {i0 : TypeInfo} {z : Value} {bytes m k N : Nat} (hgd : Region.wanted o (yielded ops act.tmps) = true) (s x : Operand)
    (hop : o.op = .call { callee := .builtin .append, args := #[s, x], argTypes := #[t, t] }) (ht : P.underlying t = some (.slice L.e)) (hi : P.info? L.e = some i0) (hz : i0.zero = some z) (hsz : i0.size = L.s) (hby : i0.bytes = bytes) (hzs : z.cells.size = L.s)
    (zs : List α) (hN : n + m = N) (hzz : xs ++ ys = zs) (hs : act.eval s = .slice A n c) (hx : act.eval x = .slice a m k)
    (ho : RowOwn L w base A n c xs) (hr : RowRd L w B a m ys) (hb : base ≤ w.heap.size) (h63 : n + m ≤ maxLen) (hbytes : (n + m) * bytes ≤ 140737488355328)
    (h : ∀ A' c' w', RowOwn L w' base A' N c' zs → Upd (fun k => A = some ⟨k, 0, none⟩) w w' → (∀ k, A' = some ⟨k, 0, none⟩ → A = some ⟨k, 0, none⟩ ∨ k = w.heap.size) → wpList P ops Q rest (act.put o.dst (.slice A' N c')) w') : wpList P ops Q (o :: rest) act w := by
  subst hN
  subst hzz
  refine wpList_step fun K hK => ?_
  rw [if_pos hgd]
  obtain ⟨A', c', w', hrun, ho', hb', hd'⟩ := append_rows_upd (k := k) (ty := o.type) ht hi hz hsz hby hzs ho hr hb h63 hbytes
  unfold Oper.wp execOp
  simp only [hop, resolve, invoke, builtin, Sem.run_bind, Sem.run_pure, Result.andThen_ok, List.map_toArray, List.map_cons, List.map_nil, hs, hx, hrun]
  exact hK _ _ (h A' c' w' ho' hb' hd')
/-- The same as an operation on its own (in a region that draws its order). -/
theorem oper_append_upd {P : Program} {o : Oper} {act : Act} {K : Act → World → Prop} {Q : Exit → Act → World → Prop} {t : TypeId} {i0 : TypeInfo} {z : Value} {bytes m k N : Nat} (s x : Operand)
    (hop : o.op = .call { callee := .builtin .append, args := #[s, x], argTypes := #[t, t] }) (ht : P.underlying t = some (.slice L.e)) (hi : P.info? L.e = some i0) (hz : i0.zero = some z) (hsz : i0.size = L.s) (hby : i0.bytes = bytes) (hzs : z.cells.size = L.s)
    (zs : List α) (hN : n + m = N) (hzz : xs ++ ys = zs) (hs : act.eval s = .slice A n c) (hx : act.eval x = .slice a m k)
    (ho : RowOwn L w base A n c xs) (hr : RowRd L w B a m ys) (hb : base ≤ w.heap.size) (h63 : n + m ≤ maxLen) (hbytes : (n + m) * bytes ≤ 140737488355328)
    (h : ∀ A' c' w', RowOwn L w' base A' N c' zs → Upd (fun k => A = some ⟨k, 0, none⟩) w w' → (∀ k, A' = some ⟨k, 0, none⟩ → A = some ⟨k, 0, none⟩ ∨ k = w.heap.size) → K (act.put o.dst (.slice A' N c')) w') : Oper.wp P o act w K Q := by
  subst hN
  subst hzz
  obtain ⟨A', c', w', hrun, ho', hb', hd'⟩ := append_rows_upd (k := k) (ty := o.type) ht hi hz hsz hby hzs ho hr hb h63 hbytes
  unfold Oper.wp execOp
  simp only [hop, resolve, invoke, builtin, Sem.run_bind, Sem.run_pure, Result.andThen_ok, List.map_toArray, List.map_cons, List.map_nil, hs, hx, hrun]
  exact h A' c' w' ho' hb' hd'
/-- A row whose block is none of those that are other. -/
theorem _root_.Go.Proofs.Ytachodjpiklpkaa.RowOwn.upd {S : Nat → Prop} {w' : World} (h : RowOwn L w base A n c xs) (hu : Upd S w w') (hS : ∀ k, A = some ⟨k, 0, none⟩ → ¬ S k) : RowOwn L w' base A n c xs :=
  h.keep fun g hg hlt => hu.2 g hlt (hS g hg)
/-- Blocks of another type are not the row's. -/
theorem _root_.Go.Proofs.Ytachodjpiklpkaa.RowOwn.not_at {g : Nat} {cs : Array Value} {t : TypeId} {fz : Nat × Nat} (h : RowOwn L w base A n c xs) (hg : w.heap[g]? = some (.cells cs t fz)) (ht : L.e ≠ t) : A ≠ some ⟨g, 0, none⟩ := by
  rintro rfl
  rcases h.2.2.2 with ⟨e, -⟩ | ⟨g', T, e, hbg, hk, hl⟩
  · cases e
  · obtain rfl : g = g' := by simpa using e
    rw [hg] at hk
    simp only [Option.some.injEq, Obj.cells.injEq] at hk
    exact ht hk.2.1.symm
theorem _root_.Go.Proofs.Ytachodjpiklpkaa.RowOwn.lt_at {g : Nat} (h : RowOwn L w base A n c xs) (hg : A = some ⟨g, 0, none⟩) : base ≤ g ∧ g < w.heap.size := by
  subst hg
  rcases h.2.2.2 with ⟨e, -⟩ | ⟨g', T, e, hbg, hk, hl⟩
  · cases e
  · obtain rfl : g = g' := by simpa using e
    exact ⟨hbg, lt_of_some hk⟩
theorem _root_.Go.Proofs.Ytachodjpiklpkaa.RowRd.upd {S : Nat → Prop} {w' : World} (h : RowRd L w B a n xs) (hu : Upd S w w') (hB : B ≤ w.heap.size) (hS : ∀ k, k < B → ¬ S k) : RowRd L w' B a n xs :=
  h.below (w := w) (w' := w') (B := B) ⟨hu.1.os, hu.1.tape, hu.1.output, hu.1.size, fun i hi => hu.2 i (Nat.lt_of_lt_of_le hi hB) (hS i hi)⟩
end
end Go.Proofs.Ytachodjpiklpkaa.Arn
