/- Rows of 16-bit numbers as rows of records of one cell; append of any row of records onto one of the call's own. No function of the program. · Append of whatever row of records onto one of the call's own: an empty source may lie anywhere. No function of the program. -/
import Derived.Test.YtjiofhlmfmhhmaaXs
import Derived.Test.YtjiofhlmfmhhmaaFr
set_option maxRecDepth 100000
namespace Go.Proofs.Ytjiofhlmfmhhmaa
open Go.RowKit
set_option linter.unusedVariables false

def w16L : Lay Int := ⟨27, 1, fun x => [.int .u16 x], fun _ => rfl, fun x v hv => by
  simp only [List.mem_cons, List.not_mem_nil, or_false] at hv
  subst hv; rfl, by decide⟩
theorem info16 : (Try.prog.info? 27).map (fun i => (i.zero, i.size, i.bytes)) = some (some (.int .u16 0), 1, 2) := by kernel_rfl
/-- The cell of a row's k-th number. -/
theorem u16_at {w : World} {B n k : Nat} {a : Option Addr} {xs : List Int} (h : RowRd w16L w B a n xs) (hk : k < n) : ∃ b off x, a = some ⟨b, off, none⟩ ∧ b < B ∧ xs[k]? = some x ∧ w.cell? ⟨b, off + k, none⟩ = some (.int .u16 x) := by
  obtain ⟨b, off, e, hlt, hc⟩ := h.2 (by omega)
  obtain ⟨x, hx⟩ : ∃ x, xs[k]? = some x := ⟨_, List.getElem?_eq_getElem (show k < xs.length from by rw [h.1]; exact hk)⟩
  have hq : w.cell? ⟨b, off + k * 1 + 0, none⟩ = some (.int .u16 x) := hc k x hx 0 _ rfl
  rw [Nat.mul_one, Nat.add_zero] at hq
  exact ⟨b, off, x, e, hlt, hx, hq⟩
theorem IsRow.rd16 {w : World} {a : Option Addr} {len cap : Nat} {zs : List Int} (h : IsRow .u16 2 w a len cap zs) : len ≤ 140737488351232 ∧ len ≤ cap ∧ RowRd w16L w w.heap.size a len (zs.take len) ∧ ∀ x ∈ zs.take len, 0 ≤ x ∧ x ≤ 65535 := by
  obtain ⟨h1, h2, h3, h4, h5⟩ := h.cells
  refine ⟨by omega, h1, ⟨h3, fun hp => ?_⟩, fun n hn => wf_u16 (h4 n hn)⟩
  obtain ⟨b, off, e, hlt, hc⟩ := h5 hp
  refine ⟨b, off, e, hlt, fun i x hx j v hv => ?_⟩
  have hi : i < len := by have := (List.getElem?_eq_some_iff.1 hx).1; omega
  match j with
  | 0 =>
    simp only [w16L, List.getElem?_cons_zero, Option.some.injEq] at hv
    subst hv
    rw [show w16L.s = 1 from rfl, Nat.mul_one, Nat.add_zero, hc i hi, List.getD_eq_getElem?_getD, hx]
    rfl
  | j + 1 => simp [w16L] at hv
section
variable {α : Type} {L : Lay α} {w : World} {B base n c : Nat} {a A : Option Addr} {xs ys : List α}
/-- Append of whatever row, nil let in. -/
theorem append_rows_any {P : Program} {t ty : TypeId} {i0 : TypeInfo} {z : Value} {bytes m k : Nat} (ht : P.underlying t = some (.slice L.e)) (hi : P.info? L.e = some i0) (hz : i0.zero = some z) (hs : i0.size = L.s) (hby : i0.bytes = bytes) (hzs : z.cells.size = L.s)
    (ho : RowOwn L w base A n c xs) (hr : RowRd L w B a m ys) (hb : base ≤ w.heap.size) (h63 : n + m ≤ maxLen) (hbytes : (n + m) * bytes ≤ 140737488355328) (hm : a = none ∨ ∃ b off, a = some ⟨b, off, none⟩) :
    ∃ A' c' w', (Builtin.append_ #[t, t] ty #[.slice A n c, .slice a m k]).run P w = .ok (.slice A' (n + m) c') w' ∧ RowOwn L w' base A' (n + m) c' (xs ++ ys) ∧ Below base w w' := by
  rcases hm with rfl | ⟨b, off, rfl⟩
  · have h0 : m = 0 := by
      rcases Nat.eq_zero_or_pos m with h0 | h0
      · exact h0
      · obtain ⟨b, off, h, _⟩ := hr.2 h0
        cases h
    subst h0
    obtain rfl : ys = [] := List.eq_nil_of_length_eq_zero hr.1
    refine ⟨A, c, w, ?_, by simpa using ho, Below.refl _ _⟩
    rcases ho.2.2.2 with ⟨rfl, rfl, rfl⟩ | ⟨g, T, rfl, hbg, hk, hl⟩
    · simp [Builtin.append_, run_underlying ht, sizeOf, typeInfo, hi, Builtin.lenOf, Builtin.firstCells]
    · simp [Builtin.append_, run_underlying ht, sizeOf, typeInfo, hi, Builtin.lenOf, Builtin.firstCells, ho.2.1, storeCells]
  · exact append_rows ht hi hz hs hby hzs ho hr hb h63 hbytes
/-- The same as a step of the walk: behind the guard 'at_builtin'. -/
theorem wpList_append_rows {P : Program} {ops : Array Oper} {rest : List Oper} {o : Oper} {act : Act} {Q : Exit → Act → World → Prop} {t : TypeId} {i0 : TypeInfo} {z : Value} {bytes m k N : Nat} (hgd : o.guard = none) (s x : Operand)
    (hop : o.op = .call { callee := .builtin .append, args := #[s, x], argTypes := #[t, t] }) (ht : P.underlying t = some (.slice L.e)) (hi : P.info? L.e = some i0) (hz : i0.zero = some z) (hsz : i0.size = L.s) (hby : i0.bytes = bytes) (hzs : z.cells.size = L.s)
    (zs : List α) (hN : n + m = N) (hzz : xs ++ ys = zs) (hs : act.eval s = .slice A n c) (hx : act.eval x = .slice a m k)
    (ho : RowOwn L w base A n c xs) (hr : RowRd L w B a m ys) (hb : base ≤ w.heap.size) (h63 : n + m ≤ maxLen) (hbytes : (n + m) * bytes ≤ 140737488355328) (hm : a = none ∨ ∃ b off, a = some ⟨b, off, none⟩)
    (h : ∀ A' c' w', RowOwn L w' base A' N c' zs → Below base w w' → wpList P ops Q rest (act.put o.dst (.slice A' N c')) w') : wpList P ops Q (o :: rest) act w := by
  subst hN
  subst hzz
  refine wpList_plain hgd fun K hK => ?_
  obtain ⟨A', c', w', hrun, ho', hb'⟩ := append_rows_any (k := k) (ty := o.type) ht hi hz hsz hby hzs ho hr hb h63 hbytes hm
  unfold Oper.wp execOp
  simp only [hop, resolve, invoke, builtin, Sem.run_bind, Sem.run_pure, Result.andThen_ok, List.map_toArray, List.map_cons, List.map_nil, hs, hx, hrun]
  exact hK _ _ (h A' c' w' ho' hb')
end
end Go.Proofs.Ytjiofhlmfmhhmaa

namespace Go.Proofs.Ytjiofhlmfmhhmaa
open Go.RowKit
set_option linter.unusedVariables false
section
variable {α : Type} {L : Lay α} {w : World} {B base n c : Nat} {a A : Option Addr} {xs ys : List α}
theorem append_rows_all {P : Program} {t ty : TypeId} {i0 : TypeInfo} {z : Value} {bytes m k : Nat} (ht : P.underlying t = some (.slice L.e)) (hi : P.info? L.e = some i0) (hz : i0.zero = some z) (hs : i0.size = L.s) (hby : i0.bytes = bytes) (hzs : z.cells.size = L.s)
    (ho : RowOwn L w base A n c xs) (hr : RowRd L w B a m ys) (hb : base ≤ w.heap.size) (h63 : n + m ≤ maxLen) (hbytes : (n + m) * bytes ≤ 140737488355328) :
    ∃ A' c' w', (Builtin.append_ #[t, t] ty #[.slice A n c, .slice a m k]).run P w = .ok (.slice A' (n + m) c') w' ∧ RowOwn L w' base A' (n + m) c' (xs ++ ys) ∧ Below base w w' := by
  rcases Nat.eq_zero_or_pos m with h0 | h0
  · subst h0
    obtain rfl : ys = [] := List.eq_nil_of_length_eq_zero hr.1
    refine ⟨A, c, w, ?_, by simpa using ho, Below.refl _ _⟩
    rcases a with _ | ad
    · rcases ho.2.2.2 with ⟨rfl, rfl, rfl⟩ | ⟨g, T, rfl, hbg, hk, hl⟩
      · simp [Builtin.append_, run_underlying ht, sizeOf, typeInfo, hi, Builtin.lenOf, Builtin.firstCells]
      · simp [Builtin.append_, run_underlying ht, sizeOf, typeInfo, hi, Builtin.lenOf, Builtin.firstCells, ho.2.1, storeCells]
    · rcases ho.2.2.2 with ⟨rfl, rfl, rfl⟩ | ⟨g, T, rfl, hbg, hk, hl⟩
      · simp [Builtin.append_, run_underlying ht, sizeOf, typeInfo, hi, Builtin.lenOf, Builtin.firstCells, loadCells, loadCellsFrom]
      · simp [Builtin.append_, run_underlying ht, sizeOf, typeInfo, hi, Builtin.lenOf, Builtin.firstCells, ho.2.1, storeCells, loadCells, loadCellsFrom]
  · obtain ⟨b, off, rfl, _⟩ := hr.2 h0
    exact append_rows ht hi hz hs hby hzs ho hr hb h63 hbytes
/-- The same as a step of the walk: behind the guard 'at_builtin'; under a guard that is met, too. -/
theorem wpList_append_all {P : Program} {ops : Array Oper} {rest : List Oper} {o : Oper} {act : Act} {Q : Exit → Act → World → Prop} {t : TypeId} {i0 : TypeInfo} {z : Value} {bytes m k N : Nat} (hgd : Region.wanted o (yielded ops act.tmps) = true) (s x : Operand)
    (hop : o.op = .call { callee := .builtin .append, args := #[s, x], argTypes := #[t, t] }) (ht : P.underlying t = some (.slice L.e)) (hi : P.info? L.e = some i0) (hz : i0.zero = some z) (hsz : i0.size = L.s) (hby : i0.bytes = bytes) (hzs : z.cells.size = L.s)
    (zs : List α) (hN : n + m = N) (hzz : xs ++ ys = zs) (hs : act.eval s = .slice A n c) (hx : act.eval x = .slice a m k)
    (ho : RowOwn L w base A n c xs) (hr : RowRd L w B a m ys) (hb : base ≤ w.heap.size) (h63 : n + m ≤ maxLen) (hbytes : (n + m) * bytes ≤ 140737488355328)
    (h : ∀ A' c' w', RowOwn L w' base A' N c' zs → Below base w w' → wpList P ops Q rest (act.put o.dst (.slice A' N c')) w') : wpList P ops Q (o :: rest) act w := by
  subst hN
  subst hzz
  refine wpList_step fun K hK => ?_
  rw [if_pos hgd]
  obtain ⟨A', c', w', hrun, ho', hb'⟩ := append_rows_all (k := k) (ty := o.type) ht hi hz hsz hby hzs ho hr hb h63 hbytes
  unfold Oper.wp execOp
  simp only [hop, resolve, invoke, builtin, Sem.run_bind, Sem.run_pure, Result.andThen_ok, List.map_toArray, List.map_cons, List.map_nil, hs, hx, hrun]
  exact hK _ _ (h A' c' w' ho' hb')
/-- The same as an operation on its own (under a guard that is met, or in a region). -/
theorem oper_append_all {P : Program} {o : Oper} {act : Act} {K : Act → World → Prop} {Q : Exit → Act → World → Prop} {t : TypeId} {i0 : TypeInfo} {z : Value} {bytes m k N : Nat} (s x : Operand)
    (hop : o.op = .call { callee := .builtin .append, args := #[s, x], argTypes := #[t, t] }) (ht : P.underlying t = some (.slice L.e)) (hi : P.info? L.e = some i0) (hz : i0.zero = some z) (hsz : i0.size = L.s) (hby : i0.bytes = bytes) (hzs : z.cells.size = L.s)
    (zs : List α) (hN : n + m = N) (hzz : xs ++ ys = zs) (hs : act.eval s = .slice A n c) (hx : act.eval x = .slice a m k)
    (ho : RowOwn L w base A n c xs) (hr : RowRd L w B a m ys) (hb : base ≤ w.heap.size) (h63 : n + m ≤ maxLen) (hbytes : (n + m) * bytes ≤ 140737488355328)
    (h : ∀ A' c' w', RowOwn L w' base A' N c' zs → Below base w w' → K (act.put o.dst (.slice A' N c')) w') : Oper.wp P o act w K Q := by
  subst hN
  subst hzz
  obtain ⟨A', c', w', hrun, ho', hb'⟩ := append_rows_all (k := k) (ty := o.type) ht hi hz hsz hby hzs ho hr hb h63 hbytes
  unfold Oper.wp execOp
  simp only [hop, resolve, invoke, builtin, Sem.run_bind, Sem.run_pure, Result.andThen_ok, List.map_toArray, List.map_cons, List.map_nil, hs, hx, hrun]
  exact h A' c' w' ho' hb'
end
end Go.Proofs.Ytjiofhlmfmhhmaa
