/- The history carried through a walk that began at w0. -/
import Derived.Test.YtjiofhlmfmhhmaaZf
set_option maxRecDepth 100000
namespace Go.Proofs.Ytjiofhlmfmhhmaa.Hst
open Go.RowKit
open Go.Proofs.Ytjiofhlmfmhhmaa.Arn
set_option linter.unusedVariables false

/-- The history at b with R (the last one first), through a walk that began at w0. -/
structure Hld (w0 w : World) (b g C : Nat) (R : List En) : Prop where
  hi : HIn w b g C R
  bel : Below w0.heap.size w0 w
  lo : w0.heap.size ≤ b ∧ w0.heap.size ≤ g
section
variable {w0 w w' : World} {b g C : Nat} {R R' : List En}
theorem Hld.more (h : Hld w0 w b g C R) (hb : Below w.heap.size w w') : Hld w0 w' b g C R := ⟨h.hi.bel hb, h.bel.trans (hb.mono h.bel.size), h.lo⟩
theorem Hld.step (h : Hld w0 w b g C R) (hr : HIn w' b g C R') (hu : Upd (fun k => k = b ∨ k = g) w w') : Hld w0 w' b g C R' := by
  have hlo := h.lo
  exact ⟨hr, h.bel.trans (hu.below h.bel.size (fun k hk => by omega)), h.lo⟩
theorem Hld.alloc (h : Hld w0 w b g C R) (o : Obj) : Hld w0 (w.alloc o) b g C R := h.more ((Below.refl _ _).alloc (Nat.le_refl _) o)
theorem Hld.push (h : Hld w0 w b g C R) (y : En) : Calls Try.prog 10 #[.pointer (some ⟨b, 0, none⟩), enV y] w fun e w' => e = .returned (.tuple #[enV (goneV C R y), .bool (decide (C ≤ R.length))]) ∧ Hld w0 w' b g C ((y :: R).take C) ∧ Upd (fun k => k = b ∨ k = g) w w' := by
  refine (push_any w b g C R y h.hi).mono ?_
  rintro e w' ⟨rfl, hr, hu⟩
  exact ⟨rfl, h.step hr hu, hu⟩
theorem Hld.find (h : Hld w0 w b g C R) (sq : Int) : Calls Try.prog 11 #[.pointer (some ⟨b, 0, none⟩), .int .u16 sq] w fun e w' => e = .returned (.tuple #[enV ((findO R sq).getD en0), .bool (findO R sq).isSome]) ∧ Hld w0 w' b g C R ∧ Below w.heap.size w w' := by
  refine (find_any w b g C R sq h.hi).mono ?_
  rintro e w' ⟨rfl, hb⟩
  exact ⟨rfl, h.more hb, hb⟩
theorem Hld.all (h : Hld w0 w b g C R) : Calls Try.prog 15 #[.pointer (some ⟨b, 0, none⟩)] w fun e w' => ∃ A c, e = .returned (.slice A R.length c) ∧ RowOwn enL w' w.heap.size A R.length c R.reverse ∧ Hld w0 w' b g C R ∧ Below w.heap.size w w' := by
  refine (all_any w b g C R h.hi).mono ?_
  rintro e w' ⟨A, c, rfl, hr, hb⟩
  rw [List.length_reverse] at hr ⊢
  exact ⟨A, c, rfl, hr, h.more hb, hb⟩
theorem Hld.clear (h : Hld w0 w b g C R) : Calls Try.prog 14 #[.pointer (some ⟨b, 0, none⟩)] w fun e w' => ∃ A c, e = .returned (.slice A R.length c) ∧ RowOwn enL w' w.heap.size A R.length c R.reverse ∧ Hld w0 w' b g C [] ∧ Upd (fun k => k = b ∨ k = g) w w' := by
  refine (clear_any w b g C R h.hi).mono ?_
  rintro e w' ⟨A, c, rfl, hr, hi, hu⟩
  exact ⟨A, c, rfl, hr, h.step hi hu, hu⟩
end
theorem take_push (C : Nat) (x : En) (T : List En) : (x :: T.take C).take C = (x :: T).take C := by
  cases C with
  | zero => rfl
  | succ c => rw [List.take_succ_cons, List.take_succ_cons, List.take_take, Nat.min_eq_left (Nat.le_succ c)]
end Go.Proofs.Ytjiofhlmfmhhmaa.Hst
