/- A row of bytes that the call itself made; append onto it; the reference's Put and Append. -/
import Derived.Test.YtklodmbccmomoaaWd
import Derived.Maps.AppendAt
namespace Go.Proofs.Ytklodmbccmomoaa
open Go.RowKit
set_option linter.unusedVariables false

/-- The slice A (n, c) is nil, or the head of a block that the call made (block number 'base' at least): its bytes are xs. -/
def Own (w : World) (base : Nat) (A : Option Addr) (n c : Nat) (xs : List Int) : Prop :=
  xs.length = n ∧ Bytes xs ∧ n ≤ c ∧ c ≤ maxLen ∧ ((A = none ∧ n = 0 ∧ c = 0) ∨ ∃ g T, A = some ⟨g, 0, none⟩ ∧ base ≤ g ∧ Blk w g xs T ∧ xs.length + T.length = c)

section
variable {w w' : World} {base n c : Nat} {A : Option Addr} {xs : List Int}
theorem Own.nil (w : World) (base : Nat) : Own w base none 0 0 [] := ⟨rfl, Bytes.nil, Nat.le_refl _, Nat.zero_le _, .inl ⟨rfl, rfl, rfl⟩⟩
theorem Own.of_blk {g : Nat} (h : Blk w g xs []) (hb : base ≤ g) (hx : Bytes xs) (hn : xs.length = n) (hm : n ≤ maxLen) : Own w base (some ⟨g, 0, none⟩) n n xs :=
  ⟨hn, hx, Nat.le_refl _, hm, .inr ⟨g, [], rfl, hb, h, by simpa using hn⟩⟩
theorem Own.row (h : Own w base A n c xs) : w.ownsRow base 5 1 (.slice A n c) n (bcells xs) := by
  obtain ⟨hx, _, hnc, hcm, h⟩ := h
  refine ⟨by rw [bcells_length, hx, Nat.mul_one], ?_⟩
  rcases h with ⟨rfl, rfl, rfl⟩ | ⟨g, T, rfl, hb, hk, hl⟩
  · exact .inl ⟨rfl, rfl⟩
  · refine .inr ⟨g, c, _, rfl, hb, hk, hnc, hcm, by simp [bcells_length]; omega, ?_⟩
    rw [Nat.mul_one, List.take_append_of_le_length (by rw [bcells_length]; omega), List.take_of_length_le (by rw [bcells_length]; omega)]
theorem own_of_row {v : Value} (h : w.ownsRow base 5 1 v n (bcells xs)) (hb : Bytes xs) : ∃ A c, v = .slice A n c ∧ Own w base A n c xs := by
  have hx : xs.length = n := by have := h.1; rw [bcells_length, Nat.mul_one] at this; exact this
  rcases h.2 with ⟨rfl, rfl⟩ | ⟨g, cap, cur, rfl, hbg, hg, hnc, hcm, hcs, ht⟩
  · exact ⟨none, 0, rfl, hx, hb, Nat.le_refl _, Nat.zero_le _, .inl ⟨rfl, rfl, rfl⟩⟩
  · rw [Nat.mul_one] at hcs ht
    refine ⟨_, cap, rfl, hx, hb, hnc, hcm, .inr ⟨g, cur.toList.drop n, rfl, hbg, ?_, by simp; omega⟩⟩
    unfold Blk
    rw [hg, ← ht, List.take_append_drop]
theorem Own.rd (h : Own w base A n c xs) : Rd w w.heap.size A n xs := by
  obtain ⟨hx, hb, _, _, h⟩ := h
  rcases h with ⟨rfl, rfl, rfl⟩ | ⟨g, T, rfl, _, hk, _⟩
  · exact ⟨hx, hb, fun h => absurd h (by omega)⟩
  · exact hk.rd hb hx
theorem Own.bytes (h : Own w base A n c xs) : Bytes xs := h.2.1
theorem Own.len (h : Own w base A n c xs) : xs.length = n := h.1
theorem Own.below {B : Nat} (h : Own w base A n c xs) (hb : Below B w w') (hB : w.heap.size ≤ B) : Own w' base A n c xs := by
  obtain ⟨hx, hbx, hnc, hcm, h⟩ := h
  refine ⟨hx, hbx, hnc, hcm, ?_⟩
  rcases h with ⟨rfl, rfl, rfl⟩ | ⟨g, T, rfl, hbg, hk, hl⟩
  · exact .inl ⟨rfl, rfl, rfl⟩
  · exact .inr ⟨g, T, rfl, hbg, hk.below hb (Nat.lt_of_lt_of_le hk.lt hB), hl⟩
end

theorem bcells_append (xs ys : List Int) : bcells xs ++ bcells ys = bcells (xs ++ ys) := by simp [bcells]

/-- The run of an append onto a row of the call's own, whatever the source. -/
theorem append_run {w : World} {base B n c m k : Nat} {A a : Option Addr} {xs ys : List Int} (ty : TypeId) (ho : Own w base A n c xs) (hr : Rd w B a m ys) (hb : base ≤ w.heap.size)
    (hs : n + m ≤ 140737488355328) :
    ∃ A' c' w', (Builtin.append_ #[22, 22] ty #[.slice A n c, .slice a m k]).run Try.prog w = .ok (.slice A' (n + m) c') w' ∧ Own w' base A' (n + m) c' (xs ++ ys) ∧ Below base w w' := by
  obtain ⟨i0, hi0, hz0, hz1, hz2⟩ := info_parts Try.info5
  have hrow := ho.row
  have hlt := hrow.lt
  have hby := ho.bytes.append hr.2.1
  rcases a with _ | ad
  · have hm : m = 0 := by
      rcases Nat.eq_zero_or_pos m with h0 | h0
      · exact h0
      · obtain ⟨b, off, h, _⟩ := hr.2.2 h0
        cases h
    subst hm
    obtain rfl : ys = [] := List.eq_nil_of_length_eq_zero hr.1
    refine ⟨A, c, w, ?_, by simpa using ho, Below.refl _ _⟩
    rcases ho.2.2.2.2 with ⟨rfl, rfl, rfl⟩ | ⟨g, T, rfl, hbg, hk, hl⟩
    · simp [Builtin.append_, run_underlying Try.underlying22, sizeOf, typeInfo, hi0, Builtin.lenOf, Builtin.firstCells]
    · simp [Builtin.append_, run_underlying Try.underlying22, sizeOf, typeInfo, hi0, Builtin.lenOf, Builtin.firstCells, ho.2.2.1, storeCells]
  · have hsrc : ∀ j u, (bcells ys)[j]? = some u → w.cell? (ad.add j) = some u := by
      intro j u hu
      have hp : 0 < (bcells ys).length := by
        rcases Nat.eq_zero_or_pos (bcells ys).length with h0 | h0
        · rw [List.getElem?_eq_none (by omega)] at hu; cases hu
        · exact h0
      obtain ⟨ad', h, hc⟩ := hr.src hp
      injection h with h
      subst h
      exact hc j u hu
    obtain ⟨v', w', hrun, h2, h3, _, h5⟩ := run_append_own_at (P := Try.prog) w base 22 ty 5 i0 _ 1 1 Try.underlying22 hi0 hz0 hz1 hz2 rfl (by omega) _ n _ hrow ad m k (bcells ys)
      (by rw [bcells_length, hr.1, Nat.mul_one]) hsrc (oneCell_bcells ys) (by unfold maxLen; omega) (by omega) hb
    rw [bcells_append] at h2
    obtain ⟨A', c', rfl, ho'⟩ := own_of_row h2 hby
    exact ⟨A', c', w', hrun, ho', (Below.refl _ _).grown h3 hb (fun q hq => (hlt q hq).1)⟩

/-- The same as a step of the walk: behind the guard 'at_builtin'. -/
theorem wpList_append_bytes {w : World} {ops : Array Oper} {rest : List Oper} {o : Oper} {act : Act} {Q : Exit → Act → World → Prop} (hgd : o.guard = none) (s x : Operand)
    (hop : o.op = .call { callee := .builtin .append, args := #[s, x], argTypes := #[22, 22] }) (base B n c m k N : Nat) (A a : Option Addr) (xs ys zs : List Int) (hN : n + m = N) (hz : xs ++ ys = zs)
    (hs : act.eval s = .slice A n c) (hx : act.eval x = .slice a m k) (ho : Own w base A n c xs) (hr : Rd w B a m ys) (hb : base ≤ w.heap.size) (hsz : n + m ≤ 140737488355328)
    (h : ∀ A' c' w', Own w' base A' N c' zs → Below base w w' → wpList Try.prog ops Q rest (act.put o.dst (.slice A' N c')) w') : wpList Try.prog ops Q (o :: rest) act w := by
  subst hN
  subst hz
  refine wpList_plain hgd fun K hK => ?_
  obtain ⟨A', c', w', hrun, ho', hb'⟩ := append_run (k := k) o.type ho hr hb hsz
  unfold Oper.wp execOp
  simp only [hop, resolve, invoke, builtin, Sem.run_bind, Sem.run_pure, Result.andThen_ok, List.map_toArray, List.map_cons, List.map_nil, hs, hx, hrun]
  exact hK _ _ (h A' c' w' ho' hb')
end Go.Proofs.Ytklodmbccmomoaa
