/- What the bound of an '..UptoSaid' gives: how long a slice among the arguments is at most. Nothing of the program. -/
import Derived.Test.YtmgpphgiigppgaaRows
namespace Go.Proofs.Ytmgpphgiigppgaa
section
variable {H : Type}
theorem bulk_one (d : DataW H) : 1 ≤ Rows.uptoBulk d := by
  cases d with
  | lit l => cases l <;> simp only [Rows.uptoBulk] <;> omega
  | _ => simp only [Rows.uptoBulk]; omega
theorem bulk_len (l : List (DataW H)) : l.length ≤ Rows.uptoBulkAll l := by
  induction l with
  | nil => exact Nat.zero_le _
  | cons x r ih => have := bulk_one x; simp only [List.length_cons, Rows.uptoBulkAll]; omega
theorem bulk_at : ∀ (l : List (DataW H)) (j : Nat) (d : DataW H), l[j]? = some d → Rows.uptoBulk d ≤ Rows.uptoBulkAll l
  | [], j, d, h => by simp at h
  | x :: r, 0, d, h => by
    simp only [List.getElem?_cons_zero, Option.some.injEq] at h
    subst h
    simp only [Rows.uptoBulkAll]
    omega
  | x :: r, j + 1, d, h => by
    rw [List.getElem?_cons_succ] at h
    have := bulk_at r j d h
    simp only [Rows.uptoBulkAll]
    omega
/-- A slice among the arguments, its spare places with it. -/
theorem upto_slice {l el sp : List (DataW H)} {j : Nat} (hk : Rows.uptoSmall H l = true) (h : l[j]? = some (.slice el sp)) : el.length + sp.length ≤ 1048576 := by
  have h1 : Rows.uptoBulkAll l ≤ 1048576 := of_decide_eq_true hk
  have h2 := bulk_at l j _ h
  have h3 := bulk_len el
  have h4 := bulk_len sp
  simp only [Rows.uptoBulk] at h2
  omega
end
end Go.Proofs.Ytmgpphgiigppgaa
