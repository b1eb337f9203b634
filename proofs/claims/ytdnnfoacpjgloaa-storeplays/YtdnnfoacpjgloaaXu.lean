/- Append onto a row of records of the call's own: every block of another type stays. No function of the program. -/
import Derived.Test.YtdnnfoacpjgloaaXt
set_option maxRecDepth 100000
namespace Go.Proofs.Ytdnnfoacpjgloaa
open Go.RowKit
set_option linter.unusedVariables false

/-- Blocks of another type than t stay as they were. -/
def Kept (t : TypeId) (w w' : World) : Prop := w.heap.size ≤ w'.heap.size ∧ ∀ (q : Nat) (cs : Array Value) (e : TypeId) (fz : Nat × Nat), e ≠ t → w.heap[q]? = some (.cells cs e fz) → w'.heap[q]? = some (.cells cs e fz)
theorem Kept.refl (t : TypeId) (w : World) : Kept t w w := ⟨Nat.le_refl _, fun _ _ _ _ _ h => h⟩
theorem Kept.trans {t : TypeId} {w w1 w2 : World} (h : Kept t w w1) (h2 : Kept t w1 w2) : Kept t w w2 := ⟨Nat.le_trans h.1 h2.1, fun q cs e fz he hq => h2.2 q cs e fz he (h.2 q cs e fz he hq)⟩
theorem Kept.drew {t : TypeId} {w w' : World} (h : Kept t w w') : Kept t w w'.drew := h
theorem Kept.of_below {t : TypeId} {w w' : World} (h : Below w.heap.size w w') : Kept t w w' := ⟨h.size, fun q cs e fz _ hq => (h.block q (lt_of_some hq)).trans hq⟩
theorem Kept.alloc {t : TypeId} {w w' : World} (h : Kept t w w') (o : Obj) : Kept t w (w'.alloc o) := h.trans (.of_below ((Below.refl _ _).alloc (Nat.le_refl _) o))
section
variable {α : Type} {L : Lay α} {w : World} {B base n c : Nat} {a A : Option Addr} {xs ys : List α}
theorem append_rows_keep {P : Program} {t ty : TypeId} {i0 : TypeInfo} {z : Value} {bytes m k b off : Nat} (ht : P.underlying t = some (.slice L.e)) (hi : P.info? L.e = some i0) (hz : i0.zero = some z) (hs : i0.size = L.s) (hby : i0.bytes = bytes) (hzs : z.cells.size = L.s)
    (ho : RowOwn L w base A n c xs) (hr : RowRd L w B (some ⟨b, off, none⟩) m ys) (hb : base ≤ w.heap.size) (h63 : n + m ≤ maxLen) (hbytes : (n + m) * bytes ≤ 140737488355328) :
    ∃ A' c' w', (Builtin.append_ #[t, t] ty #[.slice A n c, .slice (some ⟨b, off, none⟩) m k]).run P w = .ok (.slice A' (n + m) c') w' ∧ RowOwn L w' base A' (n + m) c' (xs ++ ys) ∧ Below base w w' ∧ Kept L.e w w' := by
  have hrow := ho.row
  have hlt := hrow.lt
  obtain ⟨v', w', hrun, h2, h3, _, h5⟩ := run_append_own_at (P := P) w base t ty L.e i0 z L.s bytes ht hi hz hs hby hzs L.pos _ n _ hrow ⟨b, off, none⟩ m k (flat L ys)
    (by rw [flat_len, hr.1]) (fun j u hu => by
      have hj := (List.getElem?_eq_some_iff.1 hu).1
      rw [flat_len, hr.1] at hj
      have hm : 0 < m := by
        rcases Nat.eq_zero_or_pos m with h0 | h0
        · subst h0; omega
        · exact h0
      obtain ⟨b', off', e, _, hc⟩ := hr.2 hm
      simp only [Option.some.injEq, Addr.mk.injEq, and_true] at e
      obtain ⟨rfl, rfl⟩ := e
      have hdm := Nat.div_add_mod j L.s
      have hq : j / L.s < ys.length := by rw [hr.1]; exact Nat.div_lt_of_lt_mul (by rw [Nat.mul_comm]; exact hj)
      have hr' : j % L.s < (L.cel ys[j / L.s]).length := by rw [L.len]; exact Nat.mod_lt _ L.pos
      have hg := flat_get L ys (j / L.s) (j % L.s) _ _ (List.getElem?_eq_getElem hq) (List.getElem?_eq_getElem hr')
      have he : j / L.s * L.s + j % L.s = j := by rw [Nat.mul_comm]; exact hdm
      rw [he, hu] at hg
      rw [plain_add, show off + j = off + j / L.s * L.s + j % L.s from by omega, hc _ _ (List.getElem?_eq_getElem hq) _ _ (List.getElem?_eq_getElem hr'), hg]) (flat_one L ys) h63 hbytes hb
  rw [flat_append] at h2
  obtain ⟨A', c', rfl, ho'⟩ := rowOwn_of h2
  have hbel : Below base w w' := (Below.refl _ _).grown h3 hb (fun q hq => (hlt q hq).1)
  refine ⟨A', c', w', hrun, ho', hbel, hbel.size, fun q cs e fz he hq => (h3.block q (lt_of_some hq) ?_).trans hq⟩
  intro heq
  rcases ho.2.2.2 with ⟨rfl, rfl, rfl⟩ | ⟨g, T, rfl, hbg, hk, hl⟩
  · simp [Value.ownBlock] at heq
  · simp only [Value.ownBlock, Option.some.injEq] at heq
    subst heq
    rw [hk] at hq
    simp only [Option.some.injEq, Obj.cells.injEq] at hq
    exact he hq.2.1.symm
/-- The same as a step of the walk: behind the guard 'at_builtin'. -/
theorem wpList_append_keep {P : Program} {ops : Array Oper} {rest : List Oper} {o : Oper} {act : Act} {Q : Exit → Act → World → Prop} {t : TypeId} {i0 : TypeInfo} {z : Value} {bytes m k N b off : Nat} (hgd : o.guard = none) (s x : Operand)
    (hop : o.op = .call { callee := .builtin .append, args := #[s, x], argTypes := #[t, t] }) (ht : P.underlying t = some (.slice L.e)) (hi : P.info? L.e = some i0) (hz : i0.zero = some z) (hsz : i0.size = L.s) (hby : i0.bytes = bytes) (hzs : z.cells.size = L.s)
    (zs : List α) (hN : n + m = N) (hzz : xs ++ ys = zs) (hs : act.eval s = .slice A n c) (hx : act.eval x = .slice (some ⟨b, off, none⟩) m k)
    (ho : RowOwn L w base A n c xs) (hr : RowRd L w B (some ⟨b, off, none⟩) m ys) (hb : base ≤ w.heap.size) (h63 : n + m ≤ maxLen) (hbytes : (n + m) * bytes ≤ 140737488355328)
    (h : ∀ A' c' w', RowOwn L w' base A' N c' zs → Below base w w' → Kept L.e w w' → wpList P ops Q rest (act.put o.dst (.slice A' N c')) w') : wpList P ops Q (o :: rest) act w := by
  subst hN
  subst hzz
  refine wpList_plain hgd fun K hK => ?_
  obtain ⟨A', c', w', hrun, ho', hb', hk'⟩ := append_rows_keep (k := k) (ty := o.type) ht hi hz hsz hby hzs ho hr hb h63 hbytes
  unfold Oper.wp execOp
  simp only [hop, resolve, invoke, builtin, Sem.run_bind, Sem.run_pure, Result.andThen_ok, List.map_toArray, List.map_cons, List.map_nil, hs, hx, hrun]
  exact hK _ _ (h A' c' w' ho' hb' hk')
end
end Go.Proofs.Ytdnnfoacpjgloaa
