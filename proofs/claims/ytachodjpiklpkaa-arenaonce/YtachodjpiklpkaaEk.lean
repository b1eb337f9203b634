/- copy of a row of records, whichever type, onto a row that lies whole at a block; the same block let in. No function of the program. -/
import Derived.Test.YtachodjpiklpkaaEd
import Derived.Laws.CopyRow
set_option maxRecDepth 100000
namespace Go.Proofs.Ytachodjpiklpkaa.Arn
open Go.RowKit
set_option linter.unusedVariables false

section
variable {α : Type} (L : Lay α)
theorem flat_nil : flat L ([] : List α) = [] := rfl
theorem flat_cons (x : α) (r : List α) : flat L (x :: r) = L.cel x ++ flat L r := by simp [flat]
theorem flat_take : ∀ (xs : List α) (k : Nat), (flat L xs).take (k * L.s) = flat L (xs.take k)
  | [], k => by simp [flat]
  | x :: r, 0 => by simp [flat]
  | x :: r, k + 1 => by
    rw [flat_cons, List.take_succ_cons, flat_cons, Nat.add_mul, Nat.one_mul, Nat.add_comm, List.take_append, L.len, List.take_of_length_le (by rw [L.len]; omega), Nat.add_sub_cancel_left, flat_take r k]
theorem flat_drop : ∀ (xs : List α) (k : Nat), (flat L xs).drop (k * L.s) = flat L (xs.drop k)
  | [], k => by simp [flat]
  | x :: r, 0 => by simp [flat]
  | x :: r, k + 1 => by
    rw [flat_cons, List.drop_succ_cons, Nat.add_mul, Nat.one_mul, Nat.add_comm, List.drop_append, L.len, List.drop_of_length_le (by rw [L.len]; omega), Nat.add_sub_cancel_left, flat_drop r k, List.nil_append]
end
/-- copy, whatever the element's size: all is read ahead of what is written. -/
theorem run_copy_recs {P : Program} (w : World) (dT sT ty elem : TypeId) (g o dLen dCap : Nat) (a : Addr) (sLen sCap s : Nat) (cur : Array Value) (t : TypeId) (cs : List Value)
    (hu : P.underlying dT = some (.slice elem)) (hs : (P.info? elem).map (·.size) = some s)
    (hg : w.heap[g]? = some (.cells cur t (0, 0))) (hn : cs.length = Nat.min sLen dLen * s)
    (hsrc : ∀ j v, cs[j]? = some v → w.cell? (a.add j) = some v) (hfit : o + cs.length ≤ cur.size) (h1 : ∀ v ∈ cs, v.oneCell' = true) :
    (Builtin.copy_ #[dT, sT] ty #[.slice (some ⟨g, o, none⟩) dLen dCap, .slice (some a) sLen sCap]).run P w =
      .ok (goInt (Nat.min sLen dLen)) (w.setRow g (cur.toList.take o ++ cs ++ cur.toList.drop (o + cs.length)).toArray) := by
  have hl := run_loadCells_list (P := P) w a cs hsrc
  have hst := run_storeCells_at P g o t cs 0 cur w hg (by simpa using hfit) h1
  cases hq : P.info? elem with
  | none => simp [hq] at hs
  | some i =>
    have hi : i.size = s := by simpa [hq] using hs
    simp [Builtin.copy_, run_underlying hu, Builtin.lenOf, Builtin.firstCells, sizeOf, typeInfo, hq, hi, ← hn, hl, hst]
section
variable {α : Type} {L : Lay α} {w : World} {g k n dc sl sc B : Nat} {a : Option Addr} {xs ys : List α}
/-- A row that lies whole at a block. -/
def Whole (L : Lay α) (w : World) (g : Nat) (xs : List α) : Prop := w.heap[g]? = some (.cells (flat L xs).toArray L.e (0, 0))
/-- copy(row[k:], ys): as many as there are in both. -/
theorem copy_recs {P : Program} {dT ty : TypeId} (hu : P.underlying dT = some (.slice L.e)) (hs : (P.info? L.e).map (·.size) = some L.s) (hg : Whole L w g xs) (hr : RowRd L w B a sl ys) (hm : 0 < Nat.min sl n) (hfit : k + n ≤ xs.length) :
    ∃ w', (Builtin.copy_ #[dT, dT] ty #[.slice (some ⟨g, k * L.s, none⟩) n dc, .slice a sl sc]).run P w = .ok (goInt (Nat.min sl n)) w' ∧ Whole L w' g (xs.take k ++ ys.take (Nat.min sl n) ++ xs.drop (k + Nat.min sl n)) ∧ Upd (· = g) w w' := by
  obtain ⟨m, hmm⟩ : ∃ m, Nat.min sl n = m := ⟨_, rfl⟩
  have h1 : m ≤ sl := hmm ▸ Nat.min_le_left _ _
  have h2 : m ≤ n := hmm ▸ Nat.min_le_right _ _
  obtain ⟨b, off, rfl, hlt, hc⟩ := hr.2 (by omega)
  have hlen : (flat L (ys.take m)).length = m * L.s := by rw [flat_len, List.length_take, hr.1, Nat.min_eq_left h1]
  have hf2 : k * L.s + m * L.s ≤ (flat L xs).length := by rw [flat_len, ← Nat.add_mul]; exact Nat.mul_le_mul_right _ (by omega)
  have hrun := run_copy_recs (P := P) w dT dT ty L.e g (k * L.s) n dc ⟨b, off, none⟩ sl sc L.s _ L.e (flat L (ys.take m)) hu hs hg (by rw [hlen, hmm]) (fun j v hv => by
    have hj : j < m * L.s := by have := (List.getElem?_eq_some_iff.1 hv).1; rwa [hlen] at this
    have hdm := Nat.div_add_mod j L.s
    have hq : j / L.s < m := Nat.div_lt_of_lt_mul (by rw [Nat.mul_comm]; exact hj)
    have hr' : j % L.s < L.s := Nat.mod_lt _ L.pos
    obtain ⟨y, hy⟩ : ∃ y, ys[j / L.s]? = some y := ⟨_, List.getElem?_eq_getElem (show j / L.s < ys.length by rw [hr.1]; omega)⟩
    have hy' : (ys.take m)[j / L.s]? = some y := by rw [List.getElem?_take, if_pos hq]; exact hy
    obtain ⟨u, hv'⟩ : ∃ u, (L.cel y)[j % L.s]? = some u := ⟨_, List.getElem?_eq_getElem (show j % L.s < (L.cel y).length by rw [L.len]; exact hr')⟩
    have hg := flat_get L (ys.take m) (j / L.s) (j % L.s) _ _ hy' hv'
    have he : j / L.s * L.s + j % L.s = j := by rw [Nat.mul_comm]; exact hdm
    rw [he, hv] at hg
    rw [plain_add, show off + j = off + j / L.s * L.s + j % L.s from by omega, hc _ _ hy _ _ hv', hg]) (by rw [hlen, List.size_toArray]; exact hf2) (flat_one L _)
  rw [hmm] at hrun ⊢
  refine ⟨_, hrun, ?_, ⟨⟨rfl, rfl, rfl, by simp, fun i hi => absurd hi (Nat.not_lt_zero i)⟩, fun i _ hi => setRow_other w g i _ hi⟩⟩
  unfold Whole
  rw [setRow_heap w g _ _ _ _ hg, hlen, ← Nat.add_mul]
  simp only
  rw [flat_take, flat_drop, flat_append, flat_append]
end
end Go.Proofs.Ytachodjpiklpkaa.Arn
